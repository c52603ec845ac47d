/-
  The statement TableTells: Get tells what was Set last; what is cleared is none; pages stand once. Conditions: none.
-/
import Derived.Test.YthakkaffjnkhgaaTbL
namespace Go.Proofs.Ythakkaffjnkhgaa.tableTells
open Go.ChangeShapes Go.WideShapes Go.ChangeAt Go.RowKit Go.Maps
set_option maxRecDepth 100000
set_option linter.unusedVariables false
set_option linter.unusedSimpArgs false

theorem dec_refl (l : List Int) : decide (l = l) = true := decide_eq_true rfl
theorem read_by (w : World) (v : Value) (b : List UInt8) (r : List Int × Int) (h : BytH w v b) (hl : b.length ≤ 1000000) (hr : readTb b = r) : Calls Try.prog 10 #[v] w (TbOut w r) := by
  have := tread_any w v b h (by omega)
  rw [hr] at this
  exact this
theorem bytes_by (w : World) (v : Value) (zs : List Int) (r : List UInt8 × Int) (h : TbIn w v zs) (hr : bytesT zs = r) : Calls Try.prog 23 #[.agg #[v]] w (BytE w r) := hr ▸ tbytes_any w v zs h
theorem MapZ.lenrun {w : World} {g n k : Nat} {f : Int → Option Int} (h : MapZ w g n f k) : (Builtin.len_ #[45] 3 #[.map (some g)]).run Try.prog w = .ok (.int .i64 (k : Int)) w := by
  obtain ⟨D, hown, _, hs, _⟩ := h
  subst hs
  exact hown.len mapUnderZ _
/-- Where the law stands: its table, its two maps. -/
def TtRel (w : World) (g0 g1 g2 N : Nat) (i : Value) (wr : World) : Prop :=
  ∃ (k : Nat) (zs : List Int) (A : Option Addr) (m c c2 : Nat), k ≤ N ∧ i = .int .i64 (k : Int) ∧ tbOk zs ∧ zs.length ≤ 60 ∧ TbBox wr g0 (.slice A m c) ∧ TbIn wr (.slice A m c) zs ∧
    MapZ wr g1 k (atF zs) (zs.filter nzB).length ∧ MapZ wr g2 k (byF zs) c2 ∧ Below w.heap.size w wr
def T2Rel (w : World) (g0 g1 K cn : Nat) (A : Option Addr) (m c : Nat) (zs : List Int) (l i : Value) (wr : World) : Prop :=
  ∃ n q : Nat, n ≤ 62 ∧ i = .int .i64 (n : Int) ∧ l = .int .i64 (q : Int) ∧ q ≤ n ∧ (∀ j, j < q → atZ zs j ≠ 0) ∧ (q < n → atZ zs q = 0) ∧ TbBox wr g0 (.slice A m c) ∧ TbIn wr (.slice A m c) zs ∧ MapZ wr g1 K (atF zs) cn ∧ Below w.heap.size w wr
theorem tt_start (w : World) : ∃ w3, ((w.alloc (.cells #[.slice none 0 0] 24)).alloc (.map #[] 0)).alloc (.map #[] 0) = w3 ∧ Below w.heap.size w w3 ∧ TbBox w3 w.heap.size (.slice none 0 0) ∧ MapZ w3 (w.heap.size + 1) 0 (atF []) 0 ∧ MapZ w3 (w.heap.size + 2) 0 (byF []) 0 := by
  have ea : atF [] = fun _ => none := funext fun z => by simp [atF, atZ]
  have eb : byF [] = fun _ => none := funext fun z => by simp [byF]
  refine ⟨_, rfl, ((below_new w _).trans ((below_new _ _).mono (by simp))).trans ((below_new _ _).mono (by simp; omega)), ((SBox.new w 24 [.slice none 0 0]).alloc _).alloc _, ?_, ?_⟩
  · have := MapZ.made (w.alloc (.cells #[.slice none 0 0] 24))
    rw [World.size_alloc] at this
    rw [ea]
    exact this.below (below_new _ _)
  · have := MapZ.made ((w.alloc (.cells #[.slice none 0 0] 24)).alloc (.map #[] 0))
    rw [World.size_alloc, World.size_alloc] at this
    rw [eb]
    exact this
set_option maxRecDepth 100000 in
set_option maxHeartbeats 16000000 in
theorem walk (w : World) (v : Value) (N : Nat) (f : Nat → ActT) (hv : ActsT w v N f) : Calls Try.prog 5 #[v] w fun e w' => e = .returned (.bool true) ∧ Below w.heap.size w w' := by
  obtain ⟨Av, cv, rfl, hnc, hcm⟩ := Recs.form hv
  have HV := Lib.hid hv
  have hmm := run_makeZ
  clear hv
  by_cases hN : (100 : Int) < (N : Int)
  · go_enter Try.func5, Try.ntmps5
    go_wp2_with fail
    refine (lives10_any w).mono ?_
    rintro e wl ⟨rfl, hbl⟩
    have HBL := Lib.hid hbl
    clear hbl
    go_wp2_with fail
    go_ret
    exact ⟨rfl, HBL.out⟩
  · have HN100 : Hid (N ≤ 100) := by rw [Hid]; omega
    go_enter Try.func5, Try.ntmps5
    go_wp2_with fail
    refine (lives10_any w).mono ?_
    rintro e w2 ⟨rfl, hb2⟩
    have HB2 : Hid (Below w.heap.size w w2) := hb2
    obtain ⟨w3, hw3, hb3, hx3, hm3, hq3⟩ := tt_start w2
    have HW3 := Lib.hid hw3
    have HX3 := Lib.hid hx3
    have HM3 := Lib.hid hm3
    have HQ3 := Lib.hid hq3
    have HB3 : Hid (Below w.heap.size w w3) := HB2.out.trans (hb3.mono HB2.out.size)
    have HL2 : Hid (w.heap.size ≤ w2.heap.size) := hb2.size
    clear hb2 hw3 hb3 hx3 hm3 hq3
    go_wp2_with fail
    rw [HW3.out]
    have HORD : Hid (w.heap.size ≤ w2.heap.size ∧ w2.heap.size < w2.heap.size + 1 ∧ w2.heap.size + 1 < w2.heap.size + 2) := ⟨HL2.out, by omega, by omega⟩
    generalize hg2 : w2.heap.size + 2 = g2 at *
    generalize hg1 : w2.heap.size + 1 = g1 at *
    generalize hg0 : w2.heap.size = g0 at *
    clear hg0 hg1 hg2
    go_loopw [6] (fun i wr => TtRel w g0 g1 g2 N i wr) (fun i _ => N - (intOf i).toNat)
    case atStart => exact ⟨0, [], none, 0, 0, 0, by omega, rfl, tbOk_nil, by simp, HX3.out, tbin_nil _, HM3.out, HQ3.out, HB3.out⟩
    case round =>
      obtain ⟨k, zs, A, m, c, c2, hk, rfl, hok, hlen, hbx, hti, hma, hmb, hbl⟩ := hrel
      obtain ⟨cn, hcn⟩ : ∃ cn, cn = (zs.filter nzB).length := ⟨_, rfl⟩
      rw [← hcn] at hma
      have HOK := Lib.hid hok
      have HLEN := Lib.hid hlen
      have HCN := Lib.hid hcn
      have HBX0 := Lib.hid hbx
      have HTI0 := Lib.hid hti
      have HMA0 := Lib.hid hma
      have HMB0 := Lib.hid hmb
      have HBL0 := Lib.hid hbl
      clear hok hlen hcn hbx hti hma hmb hbl
      by_cases hlt : k < N
      · have HKN : Hid (k < N) := hlt
        have hkn : (k : Int) < (N : Int) := by omega
        have hk100 : (k : Int) ≤ 100 := by have := HN100.out; omega
        obtain ⟨b, off, rfl, hb, hcell, _⟩ := Recs.at (HV.out.below HBL0.out) hlt
        have d0 : wr.drew.cell? ⟨b, off + k * 3, none⟩ = some (.int .i64 (f k).kind) := hcell 0 _ rfl
        have d1 : wr.drew.cell? ⟨b, off + k * 3 + 1, none⟩ = some (.int .i64 (f k).n) := hcell 1 _ rfl
        have d2 : wr.drew.cell? ⟨b, off + k * 3 + 2, none⟩ = some (.int .i64 (f k).page) := hcell 2 _ rfl
        have HP1 := Lib.hid (fun W => pick_any (f k).n 60 W (by omega) (by omega))
        have HP2 := Lib.hid (fun W => pick_any (f k).page 58 W (by omega) (by omega))
        have HPK := Lib.hid (fun W => pick_any (f k).kind 3 W (by omega) (by omega))
        have x0 : 0 ≤ (f k).n % 60 := by omega
        have x1 : (f k).n % 60 < 60 := by omega
        have y0 : 0 ≤ (f k).page % 58 := by omega
        have y1 : (f k).page % 58 < 58 := by omega
        generalize (f k).n % 60 = x at *
        generalize (f k).page % 58 = y at *
        generalize (f k).kind % 3 = y3 at *
        generalize (f k).n = an at *
        generalize (f k).page = ap at *
        generalize (f k).kind = ak at *
        obtain ⟨n, hn⟩ := Int.eq_ofNat_of_zero_le x0
        have HXN : Hid (x = (n : Int)) := hn
        have D1 := Lib.hid d1
        have D2 := Lib.hid d2
        have D0 := Lib.hid d0
        have St10 : Hid (TbBox wr.drew g0 (.slice A m c)) := HBX0.out
        have Tt10 : Hid (TbIn wr.drew (.slice A m c) zs) := HTI0.out.below (Below.refl _ _).drew
        have M10 : Hid (MapZ wr.drew g1 k (atF zs) cn) := HMA0.out
        have Q10 : Hid (MapZ wr.drew g2 k (byF zs) c2) := HMB0.out
        have HB10 : Hid (Below w.heap.size w wr.drew) := HBL0.out.drew
        clear hcell d1 d2 d0 hlt hk hn HBX0 HTI0 HMA0 HMB0 HBL0
        go_wp2_with fail
        refine wp_region_R (R := fun x y => x = y) (by kernel_rfl) (fun _ => rfl) (fun h k => h.trans k) (by kernel_rfl) (fun d v c a w h => by cases d <;> exact h)
          [(0, false), (1, false), (2, false), (3, false), (4, false), (6, false), (7, false), (8, false), (9, false), (10, false), (5, true), (11, true), (12, false), (13, false), (14, false)] rfl (by kernel_rfl) (by kernel_rfl) ?_
        simp only [sel, List.getElem?_toArray, List.getElem?_cons_succ, List.getElem?_cons_zero]
        generalize wr.drew = w10 at *
        iterate 4 (refine sch_take ?_ rfl ?_ ?_; rotate_left; (focus (intro u hu; go_simp <;> rfl)); simp only [Act.put, List.setIfInBounds_toArray, List.set_cons_zero, List.set_cons_succ])
        (refine sch_take ?_ rfl ?_ ?_; rotate_left; (focus (intro u hu; subst hu; have c1 := D1.out; go_simp <;> rfl)); simp only [Act.put, List.setIfInBounds_toArray, List.set_cons_zero, List.set_cons_succ])
        iterate 4 (refine sch_take ?_ rfl ?_ ?_; rotate_left; (focus (intro u hu; go_simp <;> rfl)); simp only [Act.put, List.setIfInBounds_toArray, List.set_cons_zero, List.set_cons_succ])
        (refine sch_take ?_ rfl ?_ ?_; rotate_left; (focus (intro u hu; subst hu; have c2 := D2.out; go_simp <;> rfl)); simp only [Act.put, List.setIfInBounds_toArray, List.set_cons_zero, List.set_cons_succ])
        refine sch_call rfl ?_
        intro K hK
        go_simp
        refine (HP1.out _).mono ?_
        rintro e w5x ⟨rfl, rfl⟩
        go_wp2_with fail
        refine hK _ _ rfl ?_
        clear hK K
        refine sch_call rfl ?_
        intro K hK
        go_simp
        refine (HP2.out _).mono ?_
        rintro e w5x ⟨rfl, rfl⟩
        go_wp2_with fail
        refine hK _ _ rfl ?_
        clear hK K
        iterate 3 (refine sch_take ?_ rfl ?_ ?_; rotate_left; (focus (intro u hu; go_simp <;> rfl)); simp only [Act.put, List.setIfInBounds_toArray, List.set_cons_zero, List.set_cons_succ])
        refine sch_nil ?_
        have HGL : Hid (g0 < w10.heap.size ∧ g1 < w10.heap.size ∧ g2 < w10.heap.size) := ⟨St10.out.lt, M10.out.lt, Q10.out.lt⟩
        have d0 := D0.out
        have hck0 : tbOk zs := HOK.out
        have hlen := HLEN.out
        by_cases e3 : y3 = 2
        · have he3 : (y3 == 2) = true := by simpa using e3
          clear e3
          by_cases h0 : atZ zs n = 0
          · have HAT : Hid (atF zs x = none) := by rw [Hid, HXN.out]; exact atF_none h0
            have HCL : Hid (clearT zs x = ([], 6)) := by rw [Hid, HXN.out]; exact clearT_none hck0 h0
            have HYS : Hid (tbOk zs) := hck0
            have HYL : Hid (zs.length ≤ 60) := hlen
            have HCKY : Hid (chkT zs = 0) := if_pos hck0
            have HCNY : Hid (((pagesT zs).length : Int) = (cn : Int)) := by rw [Hid, HCN.out, show pagesT zs = zs.filter nzB from if_pos hck0]
            have HCC : Hid (cn = (zs.filter nzB).length) := HCN.out
            clear h0 hck0 hlen
            have pt := St10.out.c0
            go_wp2_with (refine wpList_lookZ rfl (.tmp 58) (.tmp 59) rfl M10.out rfl x rfl (by omega) none HAT.out ?_)
            refine (HPK.out w10).mono ?_
            rintro e w10x ⟨rfl, rfl⟩
            go_wp2_with fail
            clear pt
            refine (HCL.out ▸ tclear_any w10 _ zs x Tt10.out).mono ?_
            rintro e w11 ⟨x11, rfl, hx11, hb11⟩
            obtain ⟨A11, n11, c11, rfl, N11, _, _⟩ := hx11.1.form
            have HB11 : Hid (Below w.heap.size w w11) := HB10.out.trans (hb11.mono HB10.out.size)
            have M11 : Hid (MapZ w11 g1 k (atF zs) cn) := M10.out.below hb11
            have Q11 : Hid (MapZ w11 g2 k (byF zs) c2) := Q10.out.below hb11
            have St11 : Hid (TbBox w11 (g0) (.slice A m c)) := St10.out.below hb11
            have Tt11 : Hid (TbIn w11 (.slice A m c) (zs)) := Tt10.out.below hb11
            obtain ⟨w12, hw12⟩ : ∃ u, (w11.alloc (.cells #[.slice A11 n11 c11] 24)) = u := ⟨_, rfl⟩
            have HW12 := Lib.hid hw12
            have hb12 : Below w11.heap.size w11 w12 := hw12 ▸ below_new _ _
            have HB12 : Hid (Below w.heap.size w w12) := HB11.out.trans (hb12.mono HB11.out.size)
            have M12 : Hid (MapZ w12 g1 k (atF zs) cn) := M11.out.below hb12
            have Q12 : Hid (MapZ w12 g2 k (byF zs) c2) := Q11.out.below hb12
            have St12 : Hid (TbBox w12 (g0) (.slice A m c)) := St11.out.below hb12
            have Tt12 : Hid (TbIn w12 (.slice A m c) (zs)) := Tt11.out.below hb12
            have Su12 : Hid (TbBox w12 w11.heap.size (.slice A11 n11 c11)) := hw12 ▸ SBox.new w11 24 [.slice A11 n11 c11]
            have Tu12 : Hid (TbIn w12 (.slice A11 n11 c11) ([])) := tbin_of (hx11.1.below hb12) tbOk_nil
            clear hx11 hb11 hw12 hb12
            have pt : (w11.alloc (.cells #[.slice A11 n11 c11] 24)).cell? ⟨g0, 0, none⟩ = some (.slice A m c) := by rw [HW12.out]; exact St12.out.c0
            go_wp2_with fail
            rw [HW12.out]
            clear pt
            refine (HCKY.out ▸ tcheck_any w12 _ (zs) Tt12.out).mono ?_
            rintro e w13 ⟨rfl, hb⟩
            have HB13 : Hid (Below w.heap.size w w13) := HB12.out.trans (hb.mono HB12.out.size)
            have St13 : Hid (TbBox w13 g0 (.slice A m c)) := St12.out.below hb
            have Tt13 : Hid (TbIn w13 (.slice A m c) (zs)) := Tt12.out.below hb
            have M13 := Lib.hid (M12.out.below hb)
            have Q13 := Lib.hid (Q12.out.below hb)
            clear hb
            have pt := St13.out.c0
            go_wp2_with fail
            clear pt
            refine (HCNY.out ▸ tcount_any w13 _ (zs) Tt13.out).mono ?_
            rintro e w14 ⟨rfl, hb⟩
            have HB14 : Hid (Below w.heap.size w w14) := HB13.out.trans (hb.mono HB13.out.size)
            have St14 : Hid (TbBox w14 g0 (.slice A m c)) := St13.out.below hb
            have Tt14 : Hid (TbIn w14 (.slice A m c) (zs)) := Tt13.out.below hb
            have M14 := Lib.hid (M13.out.below hb)
            have Q14 := Lib.hid (Q13.out.below hb)
            clear hb
            have hln := MapZ.lenrun M14.out
            go_wp2_with fail
            clear hln
            go_roundw
            case rel =>
              refine ⟨k + 1, zs, _, _, _, _, by have := HKN.out; omega, by have := HN100.out; have := HKN.out; go_num, HYS.out, HYL.out, St14.out, Tt14.out, ?_, Q14.out.mono (by omega), HB14.out⟩
              have := M14.out.mono (show _ ≤ k + 1 by omega)
              rw [HCC.out] at this
              exact this
            case measure => have := HKN.out; simp [intOf]; omega
          · have hn : n < zs.length := atZ_in h0
            have hys : tbOk (trimL (zs.set n 0)) := clear_ok hck0 hn
            have ha : ∀ j, j ≠ n → atZ (trimL (zs.set n 0)) j = atZ zs j := fun j hj => by rw [atZ_trim, atZ_set _ hn, if_neg hj]
            have ha0 : atZ (trimL (zs.set n 0)) n = 0 := by rw [atZ_trim, atZ_set _ hn, if_pos rfl]
            have HCL : Hid (clearT zs x = (trimL (zs.set n 0), 0)) := by rw [Hid, HXN.out]; exact clearT_ok hck0 h0
            have HYL : Hid ((trimL (zs.set n 0)).length ≤ 60) := by rw [Hid, trimL_len]; have := trimN_le (zs.set n 0); rw [List.length_set] at this; omega
            have hpm := pages_more ha0 h0 (fun j hj => (ha j hj).symm)
            have HFA : Hid (∀ z, atF (trimL (zs.set n 0)) z = if z = x then none else atF zs z) := fun z => by rw [atF_turn ha, ha0, HXN.out]; rfl
            have HFB : Hid (∀ z, byF (trimL (zs.set n 0)) z = if z = atZ zs n then none else byF zs z) := fun z => by
              rw [byF_turn hck0 hys ha, ha0, if_neg (fun h => h.1 h.2)]
            have HAT : Hid (atF zs x = some (atZ zs n)) := by rw [Hid, HXN.out]; exact atF_some h0
            have HIA : Hid ((atF zs x).isSome = true) := by rw [Hid, HAT.out]; rfl
            have HIB : Hid ((byF zs (atZ zs n)).isSome = true) := by rw [Hid, byF_some hck0 h0 rfl]; rfl
            have hold : 0 ≤ atZ zs n ∧ atZ zs n < 4096 := by have := standZ_page hck0.2.2 h0; omega
            have HYS := Lib.hid hys
            generalize trimL (zs.set n 0) = ys at *
            generalize atZ zs n = old at *
            have HCKY : Hid (chkT ys = 0) := if_pos hys
            have HCC : Hid (cn - 1 = (ys.filter nzB).length) := by rw [Hid, HCN.out]; omega
            have HCNY : Hid (((pagesT ys).length : Int) = ((cn - 1 : Nat) : Int)) := by rw [Hid, show pagesT ys = ys.filter nzB from if_pos hys, HCC.out]
            obtain ⟨ho1, ho2⟩ := hold
            clear hys ha ha0 h0 hck0 hlen hpm hn
            have pt := St10.out.c0
            go_wp2_with (refine wpList_lookZ rfl (.tmp 58) (.tmp 59) rfl M10.out rfl x rfl (by omega) (some old) HAT.out ?_)
            refine (HPK.out w10).mono ?_
            rintro e w10x ⟨rfl, rfl⟩
            go_wp2_with fail
            clear pt
            refine (HCL.out ▸ tclear_any w10 _ zs x Tt10.out).mono ?_
            rintro e w11 ⟨x11, rfl, hx11, hb11⟩
            obtain ⟨A11, n11, c11, rfl, N11, _, _⟩ := hx11.1.form
            have HB11 : Hid (Below w.heap.size w w11) := HB10.out.trans (hb11.mono HB10.out.size)
            have M11 : Hid (MapZ w11 g1 k (atF zs) cn) := M10.out.below hb11
            have Q11 : Hid (MapZ w11 g2 k (byF zs) c2) := Q10.out.below hb11
            have St11 : Hid (TbBox w11 (g0) (.slice A m c)) := St10.out.below hb11
            have Tt11 : Hid (TbIn w11 (.slice A m c) (zs)) := Tt10.out.below hb11
            obtain ⟨w12, hw12⟩ : ∃ u, (w11.alloc (.cells #[.slice A11 n11 c11] 24)) = u := ⟨_, rfl⟩
            have HW12 := Lib.hid hw12
            have hb12 : Below w11.heap.size w11 w12 := hw12 ▸ below_new _ _
            have HB12 : Hid (Below w.heap.size w w12) := HB11.out.trans (hb12.mono HB11.out.size)
            have M12 : Hid (MapZ w12 g1 k (atF zs) cn) := M11.out.below hb12
            have Q12 : Hid (MapZ w12 g2 k (byF zs) c2) := Q11.out.below hb12
            have St12 : Hid (TbBox w12 (g0) (.slice A m c)) := St11.out.below hb12
            have Tt12 : Hid (TbIn w12 (.slice A m c) (zs)) := Tt11.out.below hb12
            have Su12 : Hid (TbBox w12 w11.heap.size (.slice A11 n11 c11)) := hw12 ▸ SBox.new w11 24 [.slice A11 n11 c11]
            have Tu12 : Hid (TbIn w12 (.slice A11 n11 c11) (ys)) := tbin_of (hx11.1.below hb12) HYS.out
            have R12 : Hid (RowO w12 w10.heap.size (.slice A11 n11 c11) (ys)) := hx11.below hb12
            clear hx11 hb11 hw12 hb12
            have pt : (w11.alloc (.cells #[.slice A11 n11 c11] 24)).cell? ⟨g0, 0, none⟩ = some (.slice A m c) := by rw [HW12.out]; exact St12.out.c0
            have pu : (w11.alloc (.cells #[.slice A11 n11 c11] 24)).cell? ⟨w11.heap.size, 0, none⟩ = some (.slice A11 n11 c11) := by rw [HW12.out]; exact Su12.out.c0
            go_wp2_with (first
              | (refine wpList_storeS (show TbBox (w11.alloc (.cells #[.slice A11 n11 c11] 24)) g0 (.slice A m c) from by rw [HW12.out]; exact St12.out) tbInfo rfl _ _ rfl rfl (ds := [.slice A11 n11 c11]) rfl rfl (one_tb _ _ _) ?_; intro w13 hs hg hz
                 rw [HW12.out] at hg
                 have HB13 : Hid (Below w.heap.size w w13) := HB12.out.grown hg HB12.out.size (fun k e => by cases e; have := HORD.out; omega)
                 have R13 : Hid (RowO w13 w10.heap.size (.slice A11 n11 c11) (ys)) := R12.out.grown hg (by have := HGL.out; omega)
                 have St13 : Hid (TbBox w13 g0 (.slice A11 n11 c11)) := hs
                 have M13 : Hid (MapZ w13 g1 k (atF zs) cn) := M12.out.grown hg (by have := HORD.out; omega)
                 have Q13 : Hid (MapZ w13 g2 k (byF zs) c2) := Q12.out.grown hg (by have := HORD.out; omega)
                 clear hs hg hz)
              | (at_delete; refine wpList_delZ rfl (.tmp 83) (.tmp 84) rfl M13.out rfl x rfl (by omega) HIA.out ?_; intro w14 hm hg
                 have HB14 : Hid (Below w.heap.size w w14) := HB13.out.grown hg HB13.out.size (fun k e => by cases e; have := HORD.out; omega)
                 have R14 : Hid (RowO w14 w10.heap.size (.slice A11 n11 c11) (ys)) := R13.out.grown hg (by have := HGL.out; omega)
                 have St14 : Hid (TbBox w14 g0 (.slice A11 n11 c11)) := St13.out.grown hg (by have := HORD.out; omega)
                 have M14 : Hid (MapZ w14 g1 k (atF ys) (cn - 1)) := hm.same HFA.out
                 have Q14 : Hid (MapZ w14 g2 k (byF zs) c2) := Q13.out.grown hg (by have := HORD.out; omega)
                 clear hm hg)
              | (at_delete; refine wpList_delZ rfl (.tmp 85) (.tmp 86) rfl Q14.out rfl old rfl (by omega) HIB.out ?_; intro w15 hm hg
                 have HB15 : Hid (Below w.heap.size w w15) := HB14.out.grown hg HB14.out.size (fun k e => by cases e; have := HORD.out; omega)
                 have R15 : Hid (RowO w15 w10.heap.size (.slice A11 n11 c11) (ys)) := R14.out.grown hg (by have := HGL.out; omega)
                 have St15 : Hid (TbBox w15 g0 (.slice A11 n11 c11)) := St14.out.grown hg (by have := HORD.out; omega)
                 have M15 : Hid (MapZ w15 g1 k (atF ys) (cn - 1)) := M14.out.grown hg (by have := HORD.out; omega)
                 have Q15 : Hid (MapZ w15 g2 k (byF ys) (c2 - 1)) := hm.same HFB.out
                 clear hm hg
                 have pt := St15.out.c0))
            clear pt
            have HB15x := HB15
            have Tt15 : Hid (TbIn w15 (.slice A11 n11 c11) (ys)) := tbin_of R15.out.1 HYS.out
            refine (HCKY.out ▸ tcheck_any w15 _ (ys) Tt15.out).mono ?_
            rintro e w16 ⟨rfl, hb⟩
            have HB16 : Hid (Below w.heap.size w w16) := HB15.out.trans (hb.mono HB15.out.size)
            have St16 : Hid (TbBox w16 g0 (.slice A11 n11 c11)) := St15.out.below hb
            have Tt16 : Hid (TbIn w16 (.slice A11 n11 c11) (ys)) := Tt15.out.below hb
            have M16 := Lib.hid (M15.out.below hb)
            have Q16 := Lib.hid (Q15.out.below hb)
            clear hb
            have pt := St16.out.c0
            go_wp2_with fail
            clear pt
            refine (HCNY.out ▸ tcount_any w16 _ (ys) Tt16.out).mono ?_
            rintro e w17 ⟨rfl, hb⟩
            have HB17 : Hid (Below w.heap.size w w17) := HB16.out.trans (hb.mono HB16.out.size)
            have St17 : Hid (TbBox w17 g0 (.slice A11 n11 c11)) := St16.out.below hb
            have Tt17 : Hid (TbIn w17 (.slice A11 n11 c11) (ys)) := Tt16.out.below hb
            have M17 := Lib.hid (M16.out.below hb)
            have Q17 := Lib.hid (Q16.out.below hb)
            clear hb
            have hln := MapZ.lenrun M17.out
            go_wp2_with fail
            clear hln
            go_roundw
            case rel =>
              refine ⟨k + 1, ys, _, _, _, _, by have := HKN.out; omega, by have := HN100.out; have := HKN.out; go_num, HYS.out, HYL.out, St17.out, Tt17.out, ?_, Q17.out.mono (by omega), HB17.out⟩
              have := M17.out.mono (show _ ≤ k + 1 by omega)
              rw [HCC.out] at this
              exact this
            case measure => have := HKN.out; simp [intOf]; omega
        · have he3 : (y3 == 2) = false := by simpa using e3
          clear e3
          have hp0 : (2 + y : Int) ≠ 0 := by omega
          have hpg : pgOk (2 + y) := ⟨by omega, by omega⟩
          by_cases hi : idxZ zs (2 + y) < zs.length ∧ idxZ zs (2 + y) ≠ n
          · have HBY : Hid (byF zs (2 + y) = some ((idxZ zs (2 + y) : Nat) : Int)) := if_pos ⟨hp0, hi.1⟩
            have hne : (((idxZ zs (2 + y) : Nat) : Int) != x) = true := by have h1 := hi.2; have h2 := HXN.out; simp; omega
            have hj0 : (0 : Int) ≤ ((idxZ zs (2 + y) : Nat) : Int) := by omega
            have HCL : Hid (setT zs x (2 + y) = ([], 7)) := by
              rw [Hid, HXN.out]
              unfold setT
              rw [if_neg (fun h' => h'.elim (fun h' => h' hck0) (fun h' => h'.elim (by have := HXN.out; omega) (fun h' => h'.elim (by have := HXN.out; omega) (fun h' => h' hpg)))), Int.toNat_natCast, if_pos hi]
            generalize ((idxZ zs (2 + y) : Nat) : Int) = j at *
            have HAT : Hid (atF zs x = atF zs x) := rfl
            have HAT2 : Hid (∃ r1, atF zs x = r1) := ⟨_, rfl⟩
            have HYS : Hid (tbOk zs) := hck0
            have HYL : Hid (zs.length ≤ 60) := hlen
            have HCKY : Hid (chkT zs = 0) := if_pos hck0
            have HCNY : Hid (((pagesT zs).length : Int) = (cn : Int)) := by rw [Hid, HCN.out, show pagesT zs = zs.filter nzB from if_pos hck0]
            have HCC : Hid (cn = (zs.filter nzB).length) := HCN.out
            clear HAT
            obtain ⟨r1, hr1⟩ := HAT2.out
            have HAT := Lib.hid hr1
            clear hi hck0 hlen hpg hp0 hr1 HAT2
            have pt := St10.out.c0
            go_wp2_with (refine wpList_lookZ rfl (.tmp 58) (.tmp 59) rfl M10.out rfl x rfl (by omega) r1 HAT.out ?_)
            refine (HPK.out w10).mono ?_
            rintro e w10x ⟨rfl, rfl⟩
            go_wp2_with (refine wpList_lookZ rfl (.tmp 88) (.tmp 89) rfl Q10.out rfl (2 + y) rfl (by omega) (some j) HBY.out ?_)
            clear pt
            refine (HCL.out ▸ tset_any w10 _ zs x (2 + y) Tt10.out).mono ?_
            rintro e w11 ⟨x11, rfl, hx11, hb11⟩
            obtain ⟨A11, n11, c11, rfl, N11, _, _⟩ := hx11.1.form
            have HB11 : Hid (Below w.heap.size w w11) := HB10.out.trans (hb11.mono HB10.out.size)
            have M11 : Hid (MapZ w11 g1 k (atF zs) cn) := M10.out.below hb11
            have Q11 : Hid (MapZ w11 g2 k (byF zs) c2) := Q10.out.below hb11
            have St11 : Hid (TbBox w11 (g0) (.slice A m c)) := St10.out.below hb11
            have Tt11 : Hid (TbIn w11 (.slice A m c) (zs)) := Tt10.out.below hb11
            obtain ⟨w12, hw12⟩ : ∃ u, (w11.alloc (.cells #[.slice A11 n11 c11] 24)) = u := ⟨_, rfl⟩
            have HW12 := Lib.hid hw12
            have hb12 : Below w11.heap.size w11 w12 := hw12 ▸ below_new _ _
            have HB12 : Hid (Below w.heap.size w w12) := HB11.out.trans (hb12.mono HB11.out.size)
            have M12 : Hid (MapZ w12 g1 k (atF zs) cn) := M11.out.below hb12
            have Q12 : Hid (MapZ w12 g2 k (byF zs) c2) := Q11.out.below hb12
            have St12 : Hid (TbBox w12 (g0) (.slice A m c)) := St11.out.below hb12
            have Tt12 : Hid (TbIn w12 (.slice A m c) (zs)) := Tt11.out.below hb12
            have Su12 : Hid (TbBox w12 w11.heap.size (.slice A11 n11 c11)) := hw12 ▸ SBox.new w11 24 [.slice A11 n11 c11]
            have Tu12 : Hid (TbIn w12 (.slice A11 n11 c11) ([])) := tbin_of (hx11.1.below hb12) tbOk_nil
            clear hx11 hb11 hw12 hb12
            have pt : (w11.alloc (.cells #[.slice A11 n11 c11] 24)).cell? ⟨g0, 0, none⟩ = some (.slice A m c) := by rw [HW12.out]; exact St12.out.c0
            go_wp2_with fail
            rw [HW12.out]
            clear pt
            refine (HCKY.out ▸ tcheck_any w12 _ (zs) Tt12.out).mono ?_
            rintro e w13 ⟨rfl, hb⟩
            have HB13 : Hid (Below w.heap.size w w13) := HB12.out.trans (hb.mono HB12.out.size)
            have St13 : Hid (TbBox w13 g0 (.slice A m c)) := St12.out.below hb
            have Tt13 : Hid (TbIn w13 (.slice A m c) (zs)) := Tt12.out.below hb
            have M13 := Lib.hid (M12.out.below hb)
            have Q13 := Lib.hid (Q12.out.below hb)
            clear hb
            have pt := St13.out.c0
            go_wp2_with fail
            clear pt
            refine (HCNY.out ▸ tcount_any w13 _ (zs) Tt13.out).mono ?_
            rintro e w14 ⟨rfl, hb⟩
            have HB14 : Hid (Below w.heap.size w w14) := HB13.out.trans (hb.mono HB13.out.size)
            have St14 : Hid (TbBox w14 g0 (.slice A m c)) := St13.out.below hb
            have Tt14 : Hid (TbIn w14 (.slice A m c) (zs)) := Tt13.out.below hb
            have M14 := Lib.hid (M13.out.below hb)
            have Q14 := Lib.hid (Q13.out.below hb)
            clear hb
            have hln := MapZ.lenrun M14.out
            go_wp2_with fail
            clear hln
            go_roundw
            case rel =>
              refine ⟨k + 1, zs, _, _, _, _, by have := HKN.out; omega, by have := HN100.out; have := HKN.out; go_num, HYS.out, HYL.out, St14.out, Tt14.out, ?_, Q14.out.mono (by omega), HB14.out⟩
              have := M14.out.mono (show _ ≤ k + 1 by omega)
              rw [HCC.out] at this
              exact this
            case measure => have := HKN.out; simp [intOf]; omega
          · have HST : Hid (setT zs x (2 + y) = (setL zs n (2 + y), 0)) := by rw [Hid, HXN.out]; exact setT_ok hck0 (by have := HXN.out; omega) hpg hi
            have hys : tbOk (setL zs n (2 + y)) := setL_ok hck0 (by have := HXN.out; omega) hpg hi
            have ha : ∀ j, j ≠ n → atZ (setL zs n (2 + y)) j = atZ zs j := fun j hj => by rw [atZ_setL, if_neg hj]
            have ha0 : atZ (setL zs n (2 + y)) n = 2 + y := by rw [atZ_setL, if_pos rfl]
            have HYL : Hid ((setL zs n (2 + y)).length ≤ 60) := by rw [Hid, setL_len]; have := HXN.out; omega
            have HFA : Hid (∀ z, atF (setL zs n (2 + y)) z = if z = x then some (2 + y) else atF zs z) := fun z => by rw [atF_turn ha, ha0, HXN.out, if_pos hp0]
            have HFB0 : Hid (∀ z, byF (setL zs n (2 + y)) z = if z = 2 + y then some x else if z = atZ zs n then none else byF zs z) := fun z => by
              rw [byF_turn hck0 hys ha, ha0, HXN.out]
              by_cases e : z = 2 + y
              · rw [if_pos ⟨by omega, e⟩, if_pos e]
              · rw [if_neg (fun h => e h.2), if_neg e]
            have HYS := Lib.hid hys
            have hcc : atZ zs n = 0 → ((setL zs n (2 + y)).filter nzB).length = (zs.filter nzB).length + 1 := fun h0 => pages_more h0 (by rw [ha0]; exact hp0) ha
            have hcd : atZ zs n ≠ 0 → ((setL zs n (2 + y)).filter nzB).length = (zs.filter nzB).length := fun h0 => pages_same (fun j => by
              by_cases e : j = n
              · rw [e, ha0]; exact ⟨fun h => absurd h hp0, fun h => absurd h h0⟩
              · rw [ha j e])
            generalize setL zs n (2 + y) = ys at *
            have HCKY : Hid (chkT ys = 0) := if_pos hys
            obtain ⟨cy, hcy⟩ : ∃ cy, cy = (ys.filter nzB).length := ⟨_, rfl⟩
            have HCC : Hid (cy = (ys.filter nzB).length) := hcy
            have HCNY : Hid (((pagesT ys).length : Int) = (cy : Int)) := by rw [Hid, show pagesT ys = ys.filter nzB from if_pos hys, HCC.out]
            by_cases h0 : atZ zs n = 0
            · have HAT : Hid (atF zs x = none) := by rw [Hid, HXN.out]; exact atF_none h0
              have HBY : Hid (byF zs (2 + y) = none) := byF_none (fun j => by
                refine .inl (fun e => ?_)
                have hj := idxZ_of hck0 hp0 e
                have hjl := atZ_in (zs := zs) (j := j) (by rw [e]; exact hp0)
                have : j = n := Classical.byContradiction fun hne => hi ⟨by omega, by omega⟩
                rw [this, h0] at e
                exact hp0 e.symm)
              have HFB : Hid (∀ z, byF ys z = if z = 2 + y then some x else byF zs z) := fun z => by
                rw [HFB0.out z, h0]
                by_cases e : z = 2 + y
                · rw [if_pos e, if_pos e]
                · rw [if_neg e, if_neg e]
                  by_cases e2 : z = 0
                  · rw [if_pos e2, byF_none (fun j => .inr e2)]
                  · rw [if_neg e2]
              have HCY : Hid ((if (atF zs x).isSome = true then cn else cn + 1) = cy) := by rw [Hid, HAT.out, hcy, hcc h0, ← HCN.out]; rfl
              clear hys ha ha0 h0 hck0 hlen hcc hcd hcy hi hpg hp0 HFB0
              have pt := St10.out.c0
              go_wp2_with (refine wpList_lookZ rfl (.tmp 58) (.tmp 59) rfl M10.out rfl x rfl (by omega) none HAT.out ?_)
              refine (HPK.out w10).mono ?_
              rintro e w10x ⟨rfl, rfl⟩
              go_wp2_with (refine wpList_lookZ rfl (.tmp 88) (.tmp 89) rfl Q10.out rfl (2 + y) rfl (by omega) none HBY.out ?_)
              clear pt
              refine (HST.out ▸ tset_any w10 _ zs x (2 + y) Tt10.out).mono ?_
              rintro e w11 ⟨x11, rfl, hx11, hb11⟩
              obtain ⟨A11, n11, c11, rfl, N11, _, _⟩ := hx11.1.form
              have HB11 : Hid (Below w.heap.size w w11) := HB10.out.trans (hb11.mono HB10.out.size)
              have M11 : Hid (MapZ w11 g1 k (atF zs) cn) := M10.out.below hb11
              have Q11 : Hid (MapZ w11 g2 k (byF zs) c2) := Q10.out.below hb11
              have St11 : Hid (TbBox w11 (g0) (.slice A m c)) := St10.out.below hb11
              have Tt11 : Hid (TbIn w11 (.slice A m c) (zs)) := Tt10.out.below hb11
              obtain ⟨w12, hw12⟩ : ∃ u, (w11.alloc (.cells #[.slice A11 n11 c11] 24)) = u := ⟨_, rfl⟩
              have HW12 := Lib.hid hw12
              have hb12 : Below w11.heap.size w11 w12 := hw12 ▸ below_new _ _
              have HB12 : Hid (Below w.heap.size w w12) := HB11.out.trans (hb12.mono HB11.out.size)
              have M12 : Hid (MapZ w12 g1 k (atF zs) cn) := M11.out.below hb12
              have Q12 : Hid (MapZ w12 g2 k (byF zs) c2) := Q11.out.below hb12
              have St12 : Hid (TbBox w12 (g0) (.slice A m c)) := St11.out.below hb12
              have Tt12 : Hid (TbIn w12 (.slice A m c) (zs)) := Tt11.out.below hb12
              have Su12 : Hid (TbBox w12 w11.heap.size (.slice A11 n11 c11)) := hw12 ▸ SBox.new w11 24 [.slice A11 n11 c11]
              have Tu12 : Hid (TbIn w12 (.slice A11 n11 c11) (ys)) := tbin_of (hx11.1.below hb12) HYS.out
              have R12 : Hid (RowO w12 w10.heap.size (.slice A11 n11 c11) (ys)) := hx11.below hb12
              clear hx11 hb11 hw12 hb12
              have pt : (w11.alloc (.cells #[.slice A11 n11 c11] 24)).cell? ⟨g0, 0, none⟩ = some (.slice A m c) := by rw [HW12.out]; exact St12.out.c0
              have pu : (w11.alloc (.cells #[.slice A11 n11 c11] 24)).cell? ⟨w11.heap.size, 0, none⟩ = some (.slice A11 n11 c11) := by rw [HW12.out]; exact Su12.out.c0
              go_wp2_with (first
                | (refine wpList_storeS (show TbBox (w11.alloc (.cells #[.slice A11 n11 c11] 24)) g0 (.slice A m c) from by rw [HW12.out]; exact St12.out) tbInfo rfl _ _ rfl rfl (ds := [.slice A11 n11 c11]) rfl rfl (one_tb _ _ _) ?_; intro w13 hs hg hz
                   rw [HW12.out] at hg
                   have HB13 : Hid (Below w.heap.size w w13) := HB12.out.grown hg HB12.out.size (fun k e => by cases e; have := HORD.out; omega)
                   have R13 : Hid (RowO w13 w10.heap.size (.slice A11 n11 c11) (ys)) := R12.out.grown hg (by have := HGL.out; omega)
                   have St13 : Hid (TbBox w13 g0 (.slice A11 n11 c11)) := hs
                   have M13 : Hid (MapZ w13 g1 k (atF zs) cn) := M12.out.grown hg (by have := HORD.out; omega)
                   have Q13 : Hid (MapZ w13 g2 k (byF zs) c2) := Q12.out.grown hg (by have := HORD.out; omega)
                   clear hs hg hz)
                | (refine wpList_putZ rfl (.tmp 115) (.tmp 116) (.tmp 119) rfl M13.out rfl x (2 + y) rfl rfl (by omega) (by omega) (by have := HN100.out; have := HKN.out; unfold maxLen; omega) ?_; intro w14 hm hg
                   have HB14 : Hid (Below w.heap.size w w14) := HB13.out.grown hg HB13.out.size (fun k e => by cases e; have := HORD.out; omega)
                   have R14 : Hid (RowO w14 w10.heap.size (.slice A11 n11 c11) (ys)) := R13.out.grown hg (by have := HGL.out; omega)
                   have St14 : Hid (TbBox w14 g0 (.slice A11 n11 c11)) := St13.out.grown hg (by have := HORD.out; omega)
                   have M14 : Hid (MapZ w14 g1 (k + 1) (atF ys) cy) := by rw [HCY.out] at hm; exact hm.same HFA.out
                   have Q14 : Hid (MapZ w14 g2 k (byF zs) c2) := Q13.out.grown hg (by have := HORD.out; omega)
                   clear hm hg)
                | (refine wpList_putZ rfl (.tmp 117) (.tmp 118) (.tmp 120) rfl Q14.out rfl (2 + y) x rfl rfl (by omega) (by omega) (by have := HN100.out; have := HKN.out; unfold maxLen; omega) ?_; intro w15 hm hg
                   have HB15 : Hid (Below w.heap.size w w15) := HB14.out.grown hg HB14.out.size (fun k e => by cases e; have := HORD.out; omega)
                   have R15 : Hid (RowO w15 w10.heap.size (.slice A11 n11 c11) (ys)) := R14.out.grown hg (by have := HGL.out; omega)
                   have St15 : Hid (TbBox w15 g0 (.slice A11 n11 c11)) := St14.out.grown hg (by have := HORD.out; omega)
                   have M15 : Hid (MapZ w15 g1 (k + 1) (atF ys) cy) := M14.out.grown hg (by have := HORD.out; omega)
                   have Q15 : Hid (MapZ w15 g2 (k + 1) (byF ys) (if (((byF zs) : Int → Option Int) (2 + y)).isSome then c2 else c2 + 1)) := hm.same HFB.out
                   clear hm hg
                   have pt := St15.out.c0))
              clear pt
              have HB15x := HB15
              have Tt15 : Hid (TbIn w15 (.slice A11 n11 c11) (ys)) := tbin_of R15.out.1 HYS.out
              refine (HCKY.out ▸ tcheck_any w15 _ (ys) Tt15.out).mono ?_
              rintro e w16 ⟨rfl, hb⟩
              have HB16 : Hid (Below w.heap.size w w16) := HB15.out.trans (hb.mono HB15.out.size)
              have St16 : Hid (TbBox w16 g0 (.slice A11 n11 c11)) := St15.out.below hb
              have Tt16 : Hid (TbIn w16 (.slice A11 n11 c11) (ys)) := Tt15.out.below hb
              have M16 := Lib.hid (M15.out.below hb)
              have Q16 := Lib.hid (Q15.out.below hb)
              clear hb
              have pt := St16.out.c0
              go_wp2_with fail
              clear pt
              refine (HCNY.out ▸ tcount_any w16 _ (ys) Tt16.out).mono ?_
              rintro e w17 ⟨rfl, hb⟩
              have HB17 : Hid (Below w.heap.size w w17) := HB16.out.trans (hb.mono HB16.out.size)
              have St17 : Hid (TbBox w17 g0 (.slice A11 n11 c11)) := St16.out.below hb
              have Tt17 : Hid (TbIn w17 (.slice A11 n11 c11) (ys)) := Tt16.out.below hb
              have M17 := Lib.hid (M16.out.below hb)
              have Q17 := Lib.hid (Q16.out.below hb)
              clear hb
              have hln := MapZ.lenrun M17.out
              go_wp2_with fail
              clear hln
              go_roundw
              case rel =>
                refine ⟨k + 1, ys, _, _, _, _, by have := HKN.out; omega, by have := HN100.out; have := HKN.out; go_num, HYS.out, HYL.out, St17.out, Tt17.out, ?_, Q17.out.mono (by omega), HB17.out⟩
                have := M17.out.mono (show _ ≤ k + 1 by omega)
                rw [HCC.out] at this
                exact this
              case measure => have := HKN.out; simp [intOf]; omega
            · have HAT : Hid (atF zs x = some (atZ zs n)) := by rw [Hid, HXN.out]; exact atF_some h0
              have HIB : Hid ((byF zs (atZ zs n)).isSome = true) := by rw [Hid, byF_some hck0 h0 rfl]; rfl
              have hold : 0 ≤ atZ zs n ∧ atZ zs n < 4096 := by have := standZ_page hck0.2.2 h0; omega
              have HCY : Hid ((if (atF zs x).isSome = true then cn else cn + 1) = cy) := by rw [Hid, HAT.out, hcy, hcd h0, ← HCN.out]; rfl
              have HFB := HFB0
              by_cases hix : idxZ zs (2 + y) < zs.length
              · have HBY : Hid (byF zs (2 + y) = some x) := by
                  have : idxZ zs (2 + y) = n := Classical.byContradiction fun hne => hi ⟨hix, hne⟩
                  rw [Hid, HXN.out, ← this]
                  exact if_pos ⟨hp0, hix⟩
                generalize atZ zs n = old at *
                obtain ⟨ho1, ho2⟩ := hold
                clear hys ha ha0 h0 hck0 hlen hcc hcd hcy hi hpg hp0 HFB0 hix
                have pt := St10.out.c0
                go_wp2_with (refine wpList_lookZ rfl (.tmp 58) (.tmp 59) rfl M10.out rfl x rfl (by omega) (some old) HAT.out ?_)
                refine (HPK.out w10).mono ?_
                rintro e w10x ⟨rfl, rfl⟩
                go_wp2_with (refine wpList_lookZ rfl (.tmp 88) (.tmp 89) rfl Q10.out rfl (2 + y) rfl (by omega) (some x) HBY.out ?_)
                clear pt
                refine (HST.out ▸ tset_any w10 _ zs x (2 + y) Tt10.out).mono ?_
                rintro e w11 ⟨x11, rfl, hx11, hb11⟩
                obtain ⟨A11, n11, c11, rfl, N11, _, _⟩ := hx11.1.form
                have HB11 : Hid (Below w.heap.size w w11) := HB10.out.trans (hb11.mono HB10.out.size)
                have M11 : Hid (MapZ w11 g1 k (atF zs) cn) := M10.out.below hb11
                have Q11 : Hid (MapZ w11 g2 k (byF zs) c2) := Q10.out.below hb11
                have St11 : Hid (TbBox w11 (g0) (.slice A m c)) := St10.out.below hb11
                have Tt11 : Hid (TbIn w11 (.slice A m c) (zs)) := Tt10.out.below hb11
                obtain ⟨w12, hw12⟩ : ∃ u, (w11.alloc (.cells #[.slice A11 n11 c11] 24)) = u := ⟨_, rfl⟩
                have HW12 := Lib.hid hw12
                have hb12 : Below w11.heap.size w11 w12 := hw12 ▸ below_new _ _
                have HB12 : Hid (Below w.heap.size w w12) := HB11.out.trans (hb12.mono HB11.out.size)
                have M12 : Hid (MapZ w12 g1 k (atF zs) cn) := M11.out.below hb12
                have Q12 : Hid (MapZ w12 g2 k (byF zs) c2) := Q11.out.below hb12
                have St12 : Hid (TbBox w12 (g0) (.slice A m c)) := St11.out.below hb12
                have Tt12 : Hid (TbIn w12 (.slice A m c) (zs)) := Tt11.out.below hb12
                have Su12 : Hid (TbBox w12 w11.heap.size (.slice A11 n11 c11)) := hw12 ▸ SBox.new w11 24 [.slice A11 n11 c11]
                have Tu12 : Hid (TbIn w12 (.slice A11 n11 c11) (ys)) := tbin_of (hx11.1.below hb12) HYS.out
                have R12 : Hid (RowO w12 w10.heap.size (.slice A11 n11 c11) (ys)) := hx11.below hb12
                clear hx11 hb11 hw12 hb12
                have pt : (w11.alloc (.cells #[.slice A11 n11 c11] 24)).cell? ⟨g0, 0, none⟩ = some (.slice A m c) := by rw [HW12.out]; exact St12.out.c0
                have pu : (w11.alloc (.cells #[.slice A11 n11 c11] 24)).cell? ⟨w11.heap.size, 0, none⟩ = some (.slice A11 n11 c11) := by rw [HW12.out]; exact Su12.out.c0
                go_wp2_with (first
                  | (refine wpList_storeS (show TbBox (w11.alloc (.cells #[.slice A11 n11 c11] 24)) g0 (.slice A m c) from by rw [HW12.out]; exact St12.out) tbInfo rfl _ _ rfl rfl (ds := [.slice A11 n11 c11]) rfl rfl (one_tb _ _ _) ?_; intro w13 hs hg hz
                     rw [HW12.out] at hg
                     have HB13 : Hid (Below w.heap.size w w13) := HB12.out.grown hg HB12.out.size (fun k e => by cases e; have := HORD.out; omega)
                     have R13 : Hid (RowO w13 w10.heap.size (.slice A11 n11 c11) (ys)) := R12.out.grown hg (by have := HGL.out; omega)
                     have St13 : Hid (TbBox w13 g0 (.slice A11 n11 c11)) := hs
                     have M13 : Hid (MapZ w13 g1 k (atF zs) cn) := M12.out.grown hg (by have := HORD.out; omega)
                     have Q13 : Hid (MapZ w13 g2 k (byF zs) c2) := Q12.out.grown hg (by have := HORD.out; omega)
                     clear hs hg hz)
                  | (at_delete; refine wpList_delZ rfl (.tmp 113) (.tmp 114) rfl Q13.out rfl old rfl (by omega) HIB.out ?_; intro w14 hm hg
                     have HB14 : Hid (Below w.heap.size w w14) := HB13.out.grown hg HB13.out.size (fun k e => by cases e; have := HORD.out; omega)
                     have R14 : Hid (RowO w14 w10.heap.size (.slice A11 n11 c11) (ys)) := R13.out.grown hg (by have := HGL.out; omega)
                     have St14 : Hid (TbBox w14 g0 (.slice A11 n11 c11)) := St13.out.grown hg (by have := HORD.out; omega)
                     have M14 : Hid (MapZ w14 g1 k (atF zs) cn) := M13.out.grown hg (by have := HORD.out; omega)
                     have Q14 : Hid (MapZ w14 g2 k (fun z => if z = old then none else byF zs z) (c2 - 1)) := hm
                     clear hm hg)
                  | (refine wpList_putZ rfl (.tmp 115) (.tmp 116) (.tmp 119) rfl M14.out rfl x (2 + y) rfl rfl (by omega) (by omega) (by have := HN100.out; have := HKN.out; unfold maxLen; omega) ?_; intro w15 hm hg
                     have HB15 : Hid (Below w.heap.size w w15) := HB14.out.grown hg HB14.out.size (fun k e => by cases e; have := HORD.out; omega)
                     have R15 : Hid (RowO w15 w10.heap.size (.slice A11 n11 c11) (ys)) := R14.out.grown hg (by have := HGL.out; omega)
                     have St15 : Hid (TbBox w15 g0 (.slice A11 n11 c11)) := St14.out.grown hg (by have := HORD.out; omega)
                     have M15 : Hid (MapZ w15 g1 (k + 1) (atF ys) cy) := by rw [HCY.out] at hm; exact hm.same HFA.out
                     have Q15 : Hid (MapZ w15 g2 k (fun z => if z = old then none else byF zs z) (c2 - 1)) := Q14.out.grown hg (by have := HORD.out; omega)
                     clear hm hg)
                  | (refine wpList_putZ rfl (.tmp 117) (.tmp 118) (.tmp 120) rfl Q15.out rfl (2 + y) x rfl rfl (by omega) (by omega) (by have := HN100.out; have := HKN.out; unfold maxLen; omega) ?_; intro w16 hm hg
                     have HB16 : Hid (Below w.heap.size w w16) := HB15.out.grown hg HB15.out.size (fun k e => by cases e; have := HORD.out; omega)
                     have R16 : Hid (RowO w16 w10.heap.size (.slice A11 n11 c11) (ys)) := R15.out.grown hg (by have := HGL.out; omega)
                     have St16 : Hid (TbBox w16 g0 (.slice A11 n11 c11)) := St15.out.grown hg (by have := HORD.out; omega)
                     have M16 : Hid (MapZ w16 g1 (k + 1) (atF ys) cy) := M15.out.grown hg (by have := HORD.out; omega)
                     have Q16 : Hid (MapZ w16 g2 (k + 1) (byF ys) (if (((fun z => if z = old then none else byF zs z) : Int → Option Int) (2 + y)).isSome then (c2 - 1) else (c2 - 1) + 1)) := hm.same HFB.out
                     clear hm hg
                     have pt := St16.out.c0))
                clear pt
                have HB16x := HB16
                have Tt16 : Hid (TbIn w16 (.slice A11 n11 c11) (ys)) := tbin_of R16.out.1 HYS.out
                refine (HCKY.out ▸ tcheck_any w16 _ (ys) Tt16.out).mono ?_
                rintro e w17 ⟨rfl, hb⟩
                have HB17 : Hid (Below w.heap.size w w17) := HB16.out.trans (hb.mono HB16.out.size)
                have St17 : Hid (TbBox w17 g0 (.slice A11 n11 c11)) := St16.out.below hb
                have Tt17 : Hid (TbIn w17 (.slice A11 n11 c11) (ys)) := Tt16.out.below hb
                have M17 := Lib.hid (M16.out.below hb)
                have Q17 := Lib.hid (Q16.out.below hb)
                clear hb
                have pt := St17.out.c0
                go_wp2_with fail
                clear pt
                refine (HCNY.out ▸ tcount_any w17 _ (ys) Tt17.out).mono ?_
                rintro e w18 ⟨rfl, hb⟩
                have HB18 : Hid (Below w.heap.size w w18) := HB17.out.trans (hb.mono HB17.out.size)
                have St18 : Hid (TbBox w18 g0 (.slice A11 n11 c11)) := St17.out.below hb
                have Tt18 : Hid (TbIn w18 (.slice A11 n11 c11) (ys)) := Tt17.out.below hb
                have M18 := Lib.hid (M17.out.below hb)
                have Q18 := Lib.hid (Q17.out.below hb)
                clear hb
                have hln := MapZ.lenrun M18.out
                go_wp2_with fail
                clear hln
                go_roundw
                case rel =>
                  refine ⟨k + 1, ys, _, _, _, _, by have := HKN.out; omega, by have := HN100.out; have := HKN.out; go_num, HYS.out, HYL.out, St18.out, Tt18.out, ?_, Q18.out.mono (by omega), HB18.out⟩
                  have := M18.out.mono (show _ ≤ k + 1 by omega)
                  rw [HCC.out] at this
                  exact this
                case measure => have := HKN.out; simp [intOf]; omega
              · have HBY : Hid (byF zs (2 + y) = none) := if_neg (fun h => hix h.2)
                generalize atZ zs n = old at *
                obtain ⟨ho1, ho2⟩ := hold
                clear hys ha ha0 h0 hck0 hlen hcc hcd hcy hi hpg hp0 HFB0 hix
                have pt := St10.out.c0
                go_wp2_with (refine wpList_lookZ rfl (.tmp 58) (.tmp 59) rfl M10.out rfl x rfl (by omega) (some old) HAT.out ?_)
                refine (HPK.out w10).mono ?_
                rintro e w10x ⟨rfl, rfl⟩
                go_wp2_with (refine wpList_lookZ rfl (.tmp 88) (.tmp 89) rfl Q10.out rfl (2 + y) rfl (by omega) none HBY.out ?_)
                clear pt
                refine (HST.out ▸ tset_any w10 _ zs x (2 + y) Tt10.out).mono ?_
                rintro e w11 ⟨x11, rfl, hx11, hb11⟩
                obtain ⟨A11, n11, c11, rfl, N11, _, _⟩ := hx11.1.form
                have HB11 : Hid (Below w.heap.size w w11) := HB10.out.trans (hb11.mono HB10.out.size)
                have M11 : Hid (MapZ w11 g1 k (atF zs) cn) := M10.out.below hb11
                have Q11 : Hid (MapZ w11 g2 k (byF zs) c2) := Q10.out.below hb11
                have St11 : Hid (TbBox w11 (g0) (.slice A m c)) := St10.out.below hb11
                have Tt11 : Hid (TbIn w11 (.slice A m c) (zs)) := Tt10.out.below hb11
                obtain ⟨w12, hw12⟩ : ∃ u, (w11.alloc (.cells #[.slice A11 n11 c11] 24)) = u := ⟨_, rfl⟩
                have HW12 := Lib.hid hw12
                have hb12 : Below w11.heap.size w11 w12 := hw12 ▸ below_new _ _
                have HB12 : Hid (Below w.heap.size w w12) := HB11.out.trans (hb12.mono HB11.out.size)
                have M12 : Hid (MapZ w12 g1 k (atF zs) cn) := M11.out.below hb12
                have Q12 : Hid (MapZ w12 g2 k (byF zs) c2) := Q11.out.below hb12
                have St12 : Hid (TbBox w12 (g0) (.slice A m c)) := St11.out.below hb12
                have Tt12 : Hid (TbIn w12 (.slice A m c) (zs)) := Tt11.out.below hb12
                have Su12 : Hid (TbBox w12 w11.heap.size (.slice A11 n11 c11)) := hw12 ▸ SBox.new w11 24 [.slice A11 n11 c11]
                have Tu12 : Hid (TbIn w12 (.slice A11 n11 c11) (ys)) := tbin_of (hx11.1.below hb12) HYS.out
                have R12 : Hid (RowO w12 w10.heap.size (.slice A11 n11 c11) (ys)) := hx11.below hb12
                clear hx11 hb11 hw12 hb12
                have pt : (w11.alloc (.cells #[.slice A11 n11 c11] 24)).cell? ⟨g0, 0, none⟩ = some (.slice A m c) := by rw [HW12.out]; exact St12.out.c0
                have pu : (w11.alloc (.cells #[.slice A11 n11 c11] 24)).cell? ⟨w11.heap.size, 0, none⟩ = some (.slice A11 n11 c11) := by rw [HW12.out]; exact Su12.out.c0
                go_wp2_with (first
                  | (refine wpList_storeS (show TbBox (w11.alloc (.cells #[.slice A11 n11 c11] 24)) g0 (.slice A m c) from by rw [HW12.out]; exact St12.out) tbInfo rfl _ _ rfl rfl (ds := [.slice A11 n11 c11]) rfl rfl (one_tb _ _ _) ?_; intro w13 hs hg hz
                     rw [HW12.out] at hg
                     have HB13 : Hid (Below w.heap.size w w13) := HB12.out.grown hg HB12.out.size (fun k e => by cases e; have := HORD.out; omega)
                     have R13 : Hid (RowO w13 w10.heap.size (.slice A11 n11 c11) (ys)) := R12.out.grown hg (by have := HGL.out; omega)
                     have St13 : Hid (TbBox w13 g0 (.slice A11 n11 c11)) := hs
                     have M13 : Hid (MapZ w13 g1 k (atF zs) cn) := M12.out.grown hg (by have := HORD.out; omega)
                     have Q13 : Hid (MapZ w13 g2 k (byF zs) c2) := Q12.out.grown hg (by have := HORD.out; omega)
                     clear hs hg hz)
                  | (at_delete; refine wpList_delZ rfl (.tmp 113) (.tmp 114) rfl Q13.out rfl old rfl (by omega) HIB.out ?_; intro w14 hm hg
                     have HB14 : Hid (Below w.heap.size w w14) := HB13.out.grown hg HB13.out.size (fun k e => by cases e; have := HORD.out; omega)
                     have R14 : Hid (RowO w14 w10.heap.size (.slice A11 n11 c11) (ys)) := R13.out.grown hg (by have := HGL.out; omega)
                     have St14 : Hid (TbBox w14 g0 (.slice A11 n11 c11)) := St13.out.grown hg (by have := HORD.out; omega)
                     have M14 : Hid (MapZ w14 g1 k (atF zs) cn) := M13.out.grown hg (by have := HORD.out; omega)
                     have Q14 : Hid (MapZ w14 g2 k (fun z => if z = old then none else byF zs z) (c2 - 1)) := hm
                     clear hm hg)
                  | (refine wpList_putZ rfl (.tmp 115) (.tmp 116) (.tmp 119) rfl M14.out rfl x (2 + y) rfl rfl (by omega) (by omega) (by have := HN100.out; have := HKN.out; unfold maxLen; omega) ?_; intro w15 hm hg
                     have HB15 : Hid (Below w.heap.size w w15) := HB14.out.grown hg HB14.out.size (fun k e => by cases e; have := HORD.out; omega)
                     have R15 : Hid (RowO w15 w10.heap.size (.slice A11 n11 c11) (ys)) := R14.out.grown hg (by have := HGL.out; omega)
                     have St15 : Hid (TbBox w15 g0 (.slice A11 n11 c11)) := St14.out.grown hg (by have := HORD.out; omega)
                     have M15 : Hid (MapZ w15 g1 (k + 1) (atF ys) cy) := by rw [HCY.out] at hm; exact hm.same HFA.out
                     have Q15 : Hid (MapZ w15 g2 k (fun z => if z = old then none else byF zs z) (c2 - 1)) := Q14.out.grown hg (by have := HORD.out; omega)
                     clear hm hg)
                  | (refine wpList_putZ rfl (.tmp 117) (.tmp 118) (.tmp 120) rfl Q15.out rfl (2 + y) x rfl rfl (by omega) (by omega) (by have := HN100.out; have := HKN.out; unfold maxLen; omega) ?_; intro w16 hm hg
                     have HB16 : Hid (Below w.heap.size w w16) := HB15.out.grown hg HB15.out.size (fun k e => by cases e; have := HORD.out; omega)
                     have R16 : Hid (RowO w16 w10.heap.size (.slice A11 n11 c11) (ys)) := R15.out.grown hg (by have := HGL.out; omega)
                     have St16 : Hid (TbBox w16 g0 (.slice A11 n11 c11)) := St15.out.grown hg (by have := HORD.out; omega)
                     have M16 : Hid (MapZ w16 g1 (k + 1) (atF ys) cy) := M15.out.grown hg (by have := HORD.out; omega)
                     have Q16 : Hid (MapZ w16 g2 (k + 1) (byF ys) (if (((fun z => if z = old then none else byF zs z) : Int → Option Int) (2 + y)).isSome then (c2 - 1) else (c2 - 1) + 1)) := hm.same HFB.out
                     clear hm hg
                     have pt := St16.out.c0))
                clear pt
                have HB16x := HB16
                have Tt16 : Hid (TbIn w16 (.slice A11 n11 c11) (ys)) := tbin_of R16.out.1 HYS.out
                refine (HCKY.out ▸ tcheck_any w16 _ (ys) Tt16.out).mono ?_
                rintro e w17 ⟨rfl, hb⟩
                have HB17 : Hid (Below w.heap.size w w17) := HB16.out.trans (hb.mono HB16.out.size)
                have St17 : Hid (TbBox w17 g0 (.slice A11 n11 c11)) := St16.out.below hb
                have Tt17 : Hid (TbIn w17 (.slice A11 n11 c11) (ys)) := Tt16.out.below hb
                have M17 := Lib.hid (M16.out.below hb)
                have Q17 := Lib.hid (Q16.out.below hb)
                clear hb
                have pt := St17.out.c0
                go_wp2_with fail
                clear pt
                refine (HCNY.out ▸ tcount_any w17 _ (ys) Tt17.out).mono ?_
                rintro e w18 ⟨rfl, hb⟩
                have HB18 : Hid (Below w.heap.size w w18) := HB17.out.trans (hb.mono HB17.out.size)
                have St18 : Hid (TbBox w18 g0 (.slice A11 n11 c11)) := St17.out.below hb
                have Tt18 : Hid (TbIn w18 (.slice A11 n11 c11) (ys)) := Tt17.out.below hb
                have M18 := Lib.hid (M17.out.below hb)
                have Q18 := Lib.hid (Q17.out.below hb)
                clear hb
                have hln := MapZ.lenrun M18.out
                go_wp2_with fail
                clear hln
                go_roundw
                case rel =>
                  refine ⟨k + 1, ys, _, _, _, _, by have := HKN.out; omega, by have := HN100.out; have := HKN.out; go_num, HYS.out, HYL.out, St18.out, Tt18.out, ?_, Q18.out.mono (by omega), HB18.out⟩
                  have := M18.out.mono (show _ ≤ k + 1 by omega)
                  rw [HCC.out] at this
                  exact this
                case measure => have := HKN.out; simp [intOf]; omega
      · obtain rfl : N = k := by omega
        have hkn : ¬ ((N : Nat) : Int) < (N : Int) := by omega
        clear hlt hk
        go_wp2_with fail
        go_loopw [17, 18] (fun l i wr' => T2Rel w g0 g1 N cn A m c zs l i wr') (fun l i _ => 62 - (intOf i).toNat)
        case atStart => exact ⟨0, 0, by omega, rfl, rfl, by omega, fun j hj => absurd hj (Nat.not_lt_zero j), fun h => absurd h (Nat.lt_irrefl 0), HBX0.out, HTI0.out, HMA0.out, HBL0.out⟩
        case round =>
          obtain ⟨n, q, hn, rfl, rfl, hqn, hall, hzq, hbx, hti, hma, hbl⟩ := hrel
          generalize wr = wq at *
          have HALL := Lib.hid hall
          have HZQ := Lib.hid hzq
          have HQN := Lib.hid hqn
          have St20 := Lib.hid hbx
          have Tt20 := Lib.hid hti
          have M20 := Lib.hid hma
          have HB20 := Lib.hid hbl
          have pt := St20.out.c0
          clear hall hzq hqn hbx hti hma hbl
          by_cases hlt : n < 62
          · have hnl : (n : Int) < 62 := by omega
            have HNL : Hid (n < 62) := hlt
            have hq62 : (q : Int) ≤ 62 := by have := HQN.out; omega
            have HGT := Lib.hid (getT_ok HOK.out n)
            have HFT : Hid (atZ zs n ≠ 0 → findT zs (atZ zs n) = ((n : Int), true)) := findT_at HOK.out
            have HGO : Hid (getOk zs n = decide (atZ zs n ≠ 0)) := by rw [Hid]; unfold getOk; rw [HGT.out]
            have HAZ : Hid (atZ zs n = 0 → atF zs (n : Int) = none) := atF_none
            have HAS : Hid (atZ zs n ≠ 0 → atF zs (n : Int) = some (atZ zs n)) := atF_some
            have HXE : Hid (atZ zs n = atZ zs n) := rfl
            obtain ⟨x, hx⟩ : ∃ x, atZ zs n = x := ⟨_, rfl⟩
            rw [hx] at HGT HFT HGO HAZ HAS
            have HX := Lib.hid hx
            clear hx HXE hlt hn
            by_cases e : x = 0
            · subst e
              have hcon : ∀ W, TbIn W (.slice A m c) zs → Calls Try.prog 15 #[.agg #[.slice A m c], .int .i64 (n : Int)] W (NumIs W 0 false) := fun W hW => by
                have := tget_any W _ zs (n : Int) hW
                rw [HGT.out, HGO.out, show decide ((0 : Int) ≠ 0) = false from by decide] at this
                exact this
              have HCON := Lib.hid hcon
              have HAT := Lib.hid (HAZ.out rfl)
              clear hcon HFT HAS
              go_wp2_with fail
              refine (HCON.out _ Tt20.out).mono ?_
              rintro e w21 ⟨rfl, hb⟩
              have HB21 : Hid (Below w.heap.size w w21) := HB20.out.trans (hb.mono HB20.out.size)
              have St21 : Hid (TbBox w21 g0 (.slice A m c)) := St20.out.below hb
              have Tt21 : Hid (TbIn w21 (.slice A m c) zs) := Tt20.out.below hb
              have M21 := Lib.hid (M20.out.below hb)
              clear hb pt
              go_wp2_with (refine wpList_lookZ rfl (.tmp 142) (.tmp 143) rfl M21.out rfl (n : Int) rfl (by omega) none HAT.out ?_)
              go_roundw
              case rel => exact ⟨n + 1, q, by have := HNL.out; omega, by go_num, rfl, by have := HQN.out; omega, HALL.out, fun h => by
                by_cases e : q = n
                · rw [e]; exact HX.out
                · exact HZQ.out (by have := HQN.out; omega), St21.out, Tt21.out, M21.out, HB21.out⟩
              case measure => have := HNL.out; simp [intOf]; omega
            · have hcon : ∀ W, TbIn W (.slice A m c) zs → Calls Try.prog 15 #[.agg #[.slice A m c], .int .i64 (n : Int)] W (NumIs W x true) := fun W hW => by
                have := tget_any W _ zs (n : Int) hW
                rw [HGT.out, HGO.out, show decide (x ≠ 0) = true from decide_eq_true e] at this
                exact this
              have HCON := Lib.hid hcon
              have HAT := Lib.hid (HAS.out e)
              have HFX := Lib.hid (HFT.out e)
              have HNE : Hid (x ≠ 0) := e
              clear hcon HFT HAS HAZ e
              by_cases eq : q = n
              · subst eq
                go_wp2_with fail
                refine (HCON.out _ Tt20.out).mono ?_
                rintro e w21 ⟨rfl, hb⟩
                have HB21 : Hid (Below w.heap.size w w21) := HB20.out.trans (hb.mono HB20.out.size)
                have St21 : Hid (TbBox w21 g0 (.slice A m c)) := St20.out.below hb
                have Tt21 : Hid (TbIn w21 (.slice A m c) zs) := Tt20.out.below hb
                have M21 := Lib.hid (M20.out.below hb)
                clear hb pt
                have pt := St21.out.c0
                go_wp2_with (refine wpList_lookZ rfl (.tmp 142) (.tmp 143) rfl M21.out rfl (q : Int) rfl (by omega) (some x) HAT.out ?_)
                clear pt
                refine (HFX.out ▸ tfind_any w21 _ zs x Tt21.out).mono ?_
                rintro e w22 ⟨rfl, hb⟩
                have HB22 : Hid (Below w.heap.size w w22) := HB21.out.trans (hb.mono HB21.out.size)
                have St22 : Hid (TbBox w22 g0 (.slice A m c)) := St21.out.below hb
                have Tt22 : Hid (TbIn w22 (.slice A m c) zs) := Tt21.out.below hb
                have M22 := Lib.hid (M21.out.below hb)
                clear hb
                go_wp2_with fail
                go_roundw
                case rel => exact ⟨q + 1, q + 1, by have := HNL.out; omega, by go_num, by go_num, by omega, fun j hj => by
                    by_cases e : j = q
                    · rw [e, HX.out]; exact HNE.out
                    · exact HALL.out j (by omega), fun h => absurd h (Nat.lt_irrefl _), St22.out, Tt22.out, M22.out, HB22.out⟩
                case measure => have := HNL.out; simp [intOf]; omega
              · have hne : ((q : Int) == (n : Int)) = false := by simp; omega
                have HNQ : Hid (q < n) := by have := HQN.out; rw [Hid]; omega
                clear eq
                go_wp2_with fail
                refine (HCON.out _ Tt20.out).mono ?_
                rintro e w21 ⟨rfl, hb⟩
                have HB21 : Hid (Below w.heap.size w w21) := HB20.out.trans (hb.mono HB20.out.size)
                have St21 : Hid (TbBox w21 g0 (.slice A m c)) := St20.out.below hb
                have Tt21 : Hid (TbIn w21 (.slice A m c) zs) := Tt20.out.below hb
                have M21 := Lib.hid (M20.out.below hb)
                clear hb pt
                have pt := St21.out.c0
                go_wp2_with (refine wpList_lookZ rfl (.tmp 142) (.tmp 143) rfl M21.out rfl (n : Int) rfl (by omega) (some x) HAT.out ?_)
                clear pt
                refine (HFX.out ▸ tfind_any w21 _ zs x Tt21.out).mono ?_
                rintro e w22 ⟨rfl, hb⟩
                have HB22 : Hid (Below w.heap.size w w22) := HB21.out.trans (hb.mono HB21.out.size)
                have St22 : Hid (TbBox w22 g0 (.slice A m c)) := St21.out.below hb
                have Tt22 : Hid (TbIn w22 (.slice A m c) zs) := Tt21.out.below hb
                have M22 := Lib.hid (M21.out.below hb)
                clear hb
                go_wp2_with fail
                go_roundw
                case rel => exact ⟨n + 1, q, by have := HNL.out; omega, by go_num, rfl, by have := HQN.out; omega, HALL.out, fun h => HZQ.out HNQ.out, St22.out, Tt22.out, M22.out, HB22.out⟩
                case measure => have := HNL.out; simp [intOf]; omega
          · obtain rfl : n = 62 := by omega
            have hqi : idxZ zs 0 = q := idxZ_is 0 zs q (by
              rcases Nat.lt_or_ge zs.length q with h | h
              · exact absurd (atZ_ge (Nat.le_refl _)) (HALL.out _ h)
              · exact h) HALL.out (fun h => HZQ.out (by have := HLEN.out; omega))
            have HFR : Hid (freshT zs = ((q : Int), 0)) := by rw [Hid, freshT_ok HOK.out (by have := HLEN.out; omega), hqi]
            have HXL : Hid ((bytesT zs).1.length ≤ 655370) := bytesT_len HOK.out.1
            have HBS : Hid (bytesT zs = ((bytesT zs).1, 0)) := by rw [Hid, bytesT_ok HOK.out]
            have HR1 : Hid (readTb (bytesT zs).1 = (zs, 0)) := by rw [bytesT_ok HOK.out]; exact read_same HOK.out
            obtain ⟨xs, hxs⟩ : ∃ xs, (bytesT zs).1 = xs := ⟨_, rfl⟩
            rw [hxs] at HXL HR1 HBS
            have hq62 : (q : Int) ≤ 62 := by have := HQN.out; omega
            clear hqi hxs hlt hn pt
            generalize wq = w20 at *
            have pt := St20.out.c0
            go_wp2_with fail
            clear pt
            refine (HFR.out ▸ tfresh_any w20 _ zs Tt20.out).mono ?_
            rintro e w21 ⟨rfl, hb21⟩
            have HB21 : Hid (Below w.heap.size w w21) := HB20.out.trans (hb21.mono HB20.out.size)
            have St21 : Hid (TbBox w21 (g0) (.slice A m c)) := St20.out.below hb21
            have Tt21 : Hid (TbIn w21 (.slice A m c) (zs)) := Tt20.out.below hb21
            clear hb21
            have pt := St21.out.c0
            go_wp2_with fail
            clear pt
            refine (bytes_by w21 _ zs _ Tt21.out HBS.out).mono ?_
            rintro e w22 ⟨y22, rfl, hy22, hb22⟩
            obtain ⟨Ay, ny, cy, rfl, NY, hny, hcy⟩ := hy22.byt.form
            have HB22 : Hid (Below w.heap.size w w22) := HB21.out.trans (hb22.mono HB21.out.size)
            have St22 : Hid (TbBox w22 (g0) (.slice A m c)) := St21.out.below hb22
            have Tt22 : Hid (TbIn w22 (.slice A m c) (zs)) := Tt21.out.below hb22
            have Y22 : Hid (BytH w22 (.slice Ay ny cy) xs) := hy22.byt
            clear hb22
            have pt := St22.out.c0
            go_wp2_with fail
            clear pt
            refine (read_by w22 _ xs _ Y22.out (by have := HXL.out; omega) HR1.out).mono ?_
            rintro e w23 ⟨x23, rfl, hx23, hb23⟩
            obtain ⟨A23, n23, c23, rfl, N23, _, _⟩ := hx23.1.form
            have HB23 : Hid (Below w.heap.size w w23) := HB22.out.trans (hb23.mono HB22.out.size)
            have Y23 : Hid (BytH w23 (.slice Ay ny cy) xs) := Y22.out.below hb23
            have St23 : Hid (TbBox w23 (g0) (.slice A m c)) := St22.out.below hb23
            have Tt23 : Hid (TbIn w23 (.slice A m c) (zs)) := Tt22.out.below hb23
            obtain ⟨w24, hw24⟩ : ∃ u, (w23.alloc (.cells #[.slice A23 n23 c23] 24)) = u := ⟨_, rfl⟩
            have HW24 := Lib.hid hw24
            have hb24 : Below w23.heap.size w23 w24 := hw24 ▸ below_new _ _
            have HB24 : Hid (Below w.heap.size w w24) := HB23.out.trans (hb24.mono HB23.out.size)
            have Y24 : Hid (BytH w24 (.slice Ay ny cy) xs) := Y23.out.below hb24
            have St24 : Hid (TbBox w24 (g0) (.slice A m c)) := St23.out.below hb24
            have Tt24 : Hid (TbIn w24 (.slice A m c) (zs)) := Tt23.out.below hb24
            have Su24 : Hid (TbBox w24 w23.heap.size (.slice A23 n23 c23)) := hw24 ▸ SBox.new w23 24 [.slice A23 n23 c23]
            have Tu24 : Hid (TbIn w24 (.slice A23 n23 c23) (zs)) := tbin_of (hx23.1.below hb24) HOK.out
            clear hx23 hb23 hw24 hb24
            have pt : (w23.alloc (.cells #[.slice A23 n23 c23] 24)).cell? ⟨g0, 0, none⟩ = some (.slice A m c) := by rw [HW24.out]; exact St24.out.c0
            go_wp2_with fail
            rw [HW24.out]
            clear pt
            refine (dec_refl zs ▸ zints_any w24 _ _ zs zs Tu24.out.row Tt24.out.row).mono ?_
            rintro e w25 ⟨rfl, hb25⟩
            have HB25 : Hid (Below w.heap.size w w25) := HB24.out.trans (hb25.mono HB24.out.size)
            have Y25 : Hid (BytH w25 (.slice Ay ny cy) xs) := Y24.out.below hb25
            have St25 : Hid (TbBox w25 (g0) (.slice A m c)) := St24.out.below hb25
            have Tt25 : Hid (TbIn w25 (.slice A m c) (zs)) := Tt24.out.below hb25
            have Su25 : Hid (TbBox w25 (w23.heap.size) (.slice A23 n23 c23)) := Su24.out.below hb25
            have Tu25 : Hid (TbIn w25 (.slice A23 n23 c23) (zs)) := Tu24.out.below hb25
            clear hb25
            have pt := St25.out.c0
            have pu := Su25.out.c0
            go_wp2_with fail
            clear pt pu
            go_ret
            exact ⟨rfl, HB25.out⟩

set_option maxRecDepth 100000 in
theorem lifted (os : Os) (started : os.Started) (H : Type) (enc : TypeId × Value → H) :
    ReturnsInHanded {} Try.checked os 5 .any (Rows.tableTellsSpec.pre6 enc Try.prog Try.f5 Rows.tableTellsRow.domain false) (Rows.tableTellsSpec.post enc Try.prog Try.f5 false true false false) := by
  refine returnsInHanded_of_change (C := Try.checked) ownKnobs started (by kernel_rfl) Try.func5
    (ChangeSpec.witness6 (enc := enc) (C := Try.checked) false ⟨#[], #[.slice none 0 0], []⟩ 8 (by kernel_rfl) (by kernel_rfl) (by kernel_rfl) (by kernel_rfl)) ?_
  intro W base args ds gs before hval0 hW hcnd _
  have hval : ∀ (j : Nat) t v, Try.f5.params[j]? = some t → args[j]? = some v → Value.okWide Try.prog W .any base t v := hval0
  have hW' := hW
  obtain ⟨p, q, hA0, hV, rfl, hfz, hnd⟩ := hW
  have hA : DataW.TrodAll enc Try.prog W 0 (fun _ => true) true Try.f5.params.toList args.toList ds p := hA0
  rw [Try.params5] at hA hval
  obtain ⟨v0, vs0, d0, ds0, p0, q0, hargs, rfl, rfl, h0, r0⟩ := trodAll_cons hA
  obtain ⟨rfl, rfl, rfl⟩ := trodAll_nil r0
  obtain rfl : args = #[v0] := by cases args; simp_all
  obtain ⟨rfl, rfl⟩ := trodVars_none hV
  have k0 := h0
  have lt0 : ∀ x ∈ p0, x.block < W.heap.size := by obtain ⟨m, hm⟩ := k0; exact DataW.trod_lt m _ _ _ hm
  obtain ⟨l0, f0, b0⟩ := open_acts10 (hval 0 44 v0 rfl rfl) h0
  clear hA0 hval0
  refine (walk W v0 l0 f0 b0).mono fun e W' ⟨he, bel⟩ => ?_
  subst he
  exact ⟨_, rfl, _, _, _, [], _, [], hW', trodAll_mk1 (shut_bool Try.underlying4 _), (trodAll_cons_mk (Below.trod laidOuts (by kernel_rfl) (of_decide_eq_true (by kernel_rfl)) k0 bel lt0) trodAll_mk0), rfl, bel.frame _, fun h => by cases h⟩

theorem over : Rows.tableTellsRow.holds Try.pinned (OpenSpec.ofChange Rows.tableTellsSpec) :=
  OpenClaim.holds_of_wide 5 Try.f5 rfl rfl rfl rfl rfl rfl rfl ⟨rfl, rfl, rfl, rfl, rfl⟩ rfl rfl rfl rfl rfl (by kernel_rfl) Try.func5 (by kernel_rfl)
    (of_decide_eq_true (by kernel_rfl)) (by unfold Func.isWrapper; first | (rw [if_pos (by decide +kernel)]; kernel_rfl) | (rw [if_neg (by decide +kernel)]; exact ⟨rfl, rfl⟩))
    (fun os started H enc _ => lifted os started H enc)

theorem proved : Rows.TableTellsSaid := over
#print axioms proved
end Go.Proofs.Ythakkaffjnkhgaa.tableTells

