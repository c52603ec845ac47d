/-
  The document's disk (tallymanref04): Flush, Crash by their contracts. Conditions: none but that the disk lies there, and what is handed in apart from it.
-/
import Derived.Test.YtmdppdpoogbeaaaSecW
namespace Go.Proofs.Ytmdppdpoogbeaaa
open Go.RowKit Go.Maps

def RDone (w : World) (S : Nat → Prop) (g : Nat) (r : Nat × St) (e : Ending) (w' : World) : Prop := e = .returned (.int .i64 ((r.1 : Nat) : Int)) ∧ Ref w' (more S w w') g r.2 ∧ Trn S w w'
theorem wp_copyB {o : Oper} {a : Act} {w : World} {K : Act → World → Prop} {Q : Exit → Act → World → Prop} (d s : Operand) (ho' : o.op = .call { callee := .builtin .copy, args := #[d, s], argTypes := #[37, 37] })
    (ib off n ic dLen dCap : Nat) (B l : List UInt8) (sv : Value) (hd : a.eval d = .slice (some ⟨ib, off, none⟩) dLen dCap) (hs' : a.eval s = sv)
    (ho : Own w 0 5 (.slice (some ⟨ib, 0, none⟩) n ic) B) (hs : Byt w sv l) (hle : l.length ≤ dLen) (hfit : off + dLen ≤ n)
    (h : ∀ w', Own w' 0 5 (.slice (some ⟨ib, 0, none⟩) n ic) (splice B off l) → Trn (fun k => k = ib) w w' → w'.heap.size = w.heap.size → K (a.put o.dst (goInt l.length)) w') : o.wp Try.prog a w K Q := by
  obtain ⟨w', hrun, g1, g2, g3⟩ := run_copyB (w := w) o.type ib off n ic dLen dCap B l sv ho hs hle hfit
  unfold Oper.wp
  simp [execOp, ho', resolve, invoke, builtin, hd, hs', hrun, Result.andThen]
  exact h w' g1 g2 g3
/-- Behind the loop: order and cache are none. -/
theorem rsettled {w wr : World} {S : Nat → Prop} {g ib ic : Nat} {vn vc : Value} {vs : List Value} {s : St} {f : Nat → Nat} (ha : RefAt w g s ib ic vn vc vs) (F : RFoot S w g ib vn vc vs) (ok : OkSt s)
    (ho : Own wr 0 5 (.slice (some ⟨ib, 0, none⟩) s.B.length ic) (settleTo f s.B s.C s.C.length)) (ht : Trn (fun x => x = ib) w wr) :
    RefAt ((wr.setCell ⟨g, 1, none⟩ (.slice none 0 0)).setCell ⟨g, 2, none⟩ (.slice none 0 0)) g (settleS f s) ib ic (.slice none 0 0) (.slice none 0 0) [] := by
  have hl : (settleS f s).B.length = s.B.length := settleS_len f ok
  refine ⟨?_, ?_, World.ownsRow_nil _ _ _ _, World.ownsRow_nil _ _ _ _, fun j hj => absurd hj (by show ¬ j < 0; omega)⟩
  · rw [hl]
    have h1 := (ht.block g (F.lt g F.g) (fun e => ha.ib_g e.symm)).trans ha.obj
    simp [World.setCell, Array.getElem?_modify, h1]
    rfl
  · rw [hl]
    refine ownsRow_same ho (fun k hk => (heap_cell_other ?_).trans (heap_cell_other ?_)) <;>
    · simp [Value.ownBlock] at hk
      exact hk ▸ ha.ib_g
/-- What a round of the loop looks at. -/
theorem round_facts {w wr : World} {S : Nat → Prop} {g ib ic k : Nat} {vn vc : Value} {vs : List Value} {s : St} (ha : RefAt w g s ib ic vn vc vs) (F : RFoot S w g ib vn vc vs) (ok : OkSt s) (ht : Trn (fun x => x = ib) w wr) (hk : k < s.C.length) :
    ∃ A1 n1 c1 A2 n2 c2 b1 o1 b2 o2 Av nv cv, vn = .slice A1 n1 c1 ∧ vc = .slice A2 n2 c2 ∧ A1 = some ⟨b1, o1, none⟩ ∧ A2 = some ⟨b2, o2, none⟩ ∧ (k < n1 ∧ n1 = s.C.length) ∧ k < n2 ∧
      wr.cell? ⟨g, 0, none⟩ = some (.slice (some ⟨ib, 0, none⟩) s.B.length ic) ∧ wr.cell? ⟨g, 1, none⟩ = some vn ∧ wr.cell? ⟨g, 2, none⟩ = some vc ∧
      wr.cell? ⟨b1, o1 + k, none⟩ = some (.int .i64 ((s.C[k].1 : Nat) : Int)) ∧ wr.cell? ⟨b2, o2 + k, none⟩ = some (.slice Av nv cv) ∧ Byt wr (.slice Av nv cv) s.C[k].2 ∧ nv = 512 ∧ nv ≤ cv ∧ cv ≤ 9223372036854775807 := by
  have hb : ∀ x, S x → x ≠ ib → wr.heap[x]? = w.heap[x]? := fun x hx he => ht.block x (F.lt x hx) he
  have hobj := (hb g F.g (fun e => ha.ib_g e.symm)).trans ha.obj
  have hord := ownsRow_same (w' := wr) ha.ord (fun x hx => hb x (F.n x hx) (ha.n_g hx).2)
  have hrows := ownsRow_same (w' := wr) ha.rows (fun x hx => hb x (F.c x hx) (ha.c_g hx).2)
  have hlen := ha.len
  rw [← hlen] at hrows
  have hr2 : Rowz wr vc vs := OwnR.rowz hrows
  obtain ⟨A1, n1, c1, rfl, N1, _, _⟩ := (ints_rowz hord).form
  obtain ⟨A2, n2, c2, rfl, N2, _, _⟩ := hr2.form
  obtain ⟨b1, o1, rfl, _, h1⟩ := (ints_rowz hord).at (k := k) (by rw [inz_len, keysC_len]; exact hk)
  obtain ⟨b2, o2, rfl, _, h2⟩ := hr2.at (k := k) (by omega)
  have hkv : k < vs.length := by omega
  have hown := ownsRow_same (w' := wr) (ha.each k hk hkv).1 (fun x hx => hb x (F.r _ (List.getElem_mem hkv) x hx) (fun e => (ha.each k hk hkv).2 (e ▸ hx)))
  have hby : Byt wr vs[k] s.C[k].2 := Own.byt hown
  obtain ⟨Av, nv, cv, ev, Nv, hv1, hv2⟩ := hby.form
  obtain ⟨q0, q1, q2, _, _, _, _⟩ := robj_cells hobj
  have hn1 : n1 = s.C.length := by have := N1.out; rw [inz_len, keysC_len] at this; exact this
  have e1 := h1 k (by rw [inz_len, keysC_len]; exact hk)
  have e2 := h2 k hkv
  refine ⟨_, n1, c1, _, n2, c2, b1, o1, b2, o2, Av, nv, cv, rfl, rfl, rfl, rfl, ⟨by omega, hn1⟩, by have := N2.out; omega, q0, q1, q2, ?_, by rw [e2, ev], ev ▸ hby, Nv.out.trans (ok.rows _ (List.getElem_mem hk)).2, hv1, hv2⟩
  rw [e1]
  simp [inz, keysC]
theorem dstRun {n ic ib x : Nat} (h1 : 512 * (x + 1) ≤ n) (h2 : n ≤ ic) : ∀ W, (Instr.slice 37 (.slice (some ⟨ib, 0, none⟩) n ic) (some (.int .i64 ((x : Int) * 512))) none none).run Try.prog W = .ok (.slice (some ⟨ib, 512 * x, none⟩) (n - 512 * x) (ic - 512 * x)) W := by
  intro W
  rw [run_slice_l W 37 _ n ic elemByte .i64 ((x : Int) * 512) (by omega) (by omega), sizeByte]
  have e1 : ((x : Int) * 512).toNat = 512 * x := by omega
  simp only [Result.andThen, sliced, e1]
  rw [if_neg (by omega)]
  simp [plainAdd]
theorem wrapMul {x : Nat} (h : x ≤ 32768) : IntKind.i64.wrap ((x : Int) * 512) = (x : Int) * 512 := by
  rw [IntKind.wrap_i64]; omega

set_option maxRecDepth 100000 in
set_option maxHeartbeats 4000000 in
theorem rflush_is (w : World) (S : Nat → Prop) (g : Nat) (s : St) (h : Ref w S g s) :
    Calls Try.prog 12 #[.pointer (some ⟨g, 0, none⟩)] w (RDone w S g (flushR s)) := by
  have HF := Lib.hid (rfails_is w S g s h)
  have HLT := Lib.hid h.lt
  clear h
  unfold RFailed at HF
  cases hbl : blows s.F
  · have HR : Hid (flushR s = (0, settleS (fun _ => 512) (tick s))) := by rw [Hid]; unfold flushR; rw [hbl]; rfl
    rw [hbl] at HF
    clear hbl
    go_enter Try.func12, Try.ntmps12
    go_wp2_with fail
    refine HF.out.mono ?_
    rintro e w1 ⟨rfl, hd1, ht1, hs1⟩
    have HT1 := Lib.hid ht1
    have HS1 := Lib.hid hs1
    clear ht1 hs1 HF
    generalize tick s = s at *
    obtain ⟨ib, ic, vn, vc, vs, ha, F, ok⟩ := hd1
    have HA := Lib.hid ha
    have HFT := Lib.hid F
    have HO := Lib.hid ok
    have hcn := ok.cnt
    have hno : ∃ A1 n1 c1, vn = .slice A1 n1 c1 ∧ Hid (n1 = s.C.length) ∧ n1 ≤ c1 ∧ c1 ≤ 9223372036854775807 := by
      obtain ⟨A1, n1, c1, e, N1, h1, h2⟩ := (ints_rowz ha.ord).form
      exact ⟨A1, n1, c1, e, by have := N1.out; rw [inz_len, keysC_len] at this; exact this, h1, h2⟩
    obtain ⟨A1, n1, c1, rfl, NN, hnc1, hcm1⟩ := hno
    have hic : s.B.length ≤ ic ∧ ic ≤ 9223372036854775807 := by
      obtain ⟨_, c', e, h3, h4, _⟩ := Own.byt ha.img
      injection e with _ _ e3
      subst e3
      unfold maxLen at h4
      exact ⟨h3, by omega⟩
    clear ha F ok
    go_wp2_with fail
    go_loopw [3] (fun i wr => SettleRel w1 ib ic s.B.length (fun _ => 512) s.B s.C i wr) (fun i _ => n1 - (intOf i).toNat)
    case atStart => exact ⟨0, by omega, rfl, HA.out.img, Trn.refl _ _⟩
    case round =>
      obtain ⟨k, hk, rfl, hown, htrn⟩ := hrel
      have HW := Lib.hid hown
      have HT := Lib.hid htrn
      clear hown htrn
      by_cases hlt : k < s.C.length
      · obtain ⟨A1', n1', c1', A2, n2, c2, b1, o1, b2, o2, Av, nv, cv, hvn, rfl, rfl, rfl, hkn1, hkn2, d0, d1, d2, e1, e2, hby, hnv, hcv1, hcv2⟩ := round_facts HA.out HFT.out HO.out HT.out hlt
        injection hvn with hv1 hv2 hv3
        subst hv1 hv2 hv3
        have hrow := HO.out.rows _ (List.getElem_mem hlt)
        have hst : settleTo (fun _ => 512) s.B s.C (k + 1) = splice (settleTo (fun _ => 512) s.B s.C k) (512 * s.C[k].1) s.C[k].2 := by
          show splice _ _ _ = _
          rw [getD_at s.C k hlt, List.take_of_length_le (by rw [hrow.2]; exact Nat.le_refl _)]
        have hwh := HO.out.whole
        have hfew := HO.out.few
        have hkn : (k : Int) < (n1 : Int) := by omega
        have hkn' : (k : Int) < (n2 : Int) := by omega
        generalize s.C[k].1 = x at *
        generalize s.C[k].2 = l at *
        have HXE : Hid (512 * (x + 1) ≤ s.B.length) := by rw [Hid]; have := hrow.1; omega
        have HLL := Lib.hid hrow.2
        have HST := Lib.hid hst
        have HR1 := Lib.hid (dstRun (ib := ib) HXE.out hic.1)
        have HWR := Lib.hid (wrapMul (x := x) (by have := hrow.1; omega))
        have HD0 := Lib.hid (show wr.drew.cell? _ = _ from d0)
        have HD1 := Lib.hid (show wr.drew.cell? _ = _ from d1)
        have HD2 := Lib.hid (show wr.drew.cell? _ = _ from d2)
        have HCN := Lib.hid (show wr.drew.cell? _ = _ from e1)
        have HCV := Lib.hid (show wr.drew.cell? _ = _ from e2)
        have HBY := Lib.hid (show Byt wr.drew _ _ from hby)
        have HWD := Lib.hid (show Own wr.drew 0 5 _ _ from HW.out)
        have HTD := Lib.hid (show Trn (fun x => x = ib) w1 wr.drew from HT.out.drew)
        have hmx := HO.out.short
        clear e1 e2 hby hst hrow hwh hfew HW HT d0 d2 hnv
        generalize s.B.length = nb at *
        go_wp2_with fail
        refine wp_region_T (R := fun x y => x = y) (by kernel_rfl) (fun _ => rfl) (fun h k => h.trans k) (by kernel_rfl) 20 rfl (by kernel_rfl) (by kernel_rfl) (fun d v c a w h => by cases d <;> exact h)
          [(0, false), (1, false), (2, false), (3, false), (4, false), (5, false), (6, false), (7, false), (8, false), (9, false), (10, false), (11, false), (12, false), (13, false), (14, false), (15, false), (16, false), (17, false), (18, false), (19, false)] rfl (by kernel_rfl) ?_
        simp only [sel, List.getElem?_toArray, List.getElem?_cons_succ, List.getElem?_cons_zero]
        generalize wr.drew = wd at *
        iterate 3 (refine schT_take ?_ rfl ?_ ?_; rotate_left; (focus (intro u hu; go_simp <;> rfl)); simp only [Act.put, List.setIfInBounds_toArray, List.set_cons_zero, List.set_cons_succ])
        (refine schT_take ?_ rfl ?_ ?_; rotate_left; (focus (intro u hu; have c0 := hu ▸ HD0.out; clear hu; go_simp <;> rfl)); simp only [Act.put, List.setIfInBounds_toArray, List.set_cons_zero, List.set_cons_succ])
        iterate 3 (refine schT_take ?_ rfl ?_ ?_; rotate_left; (focus (intro u hu; go_simp <;> rfl)); simp only [Act.put, List.setIfInBounds_toArray, List.set_cons_zero, List.set_cons_succ])
        (refine schT_take ?_ rfl ?_ ?_; rotate_left; (focus (intro u hu; have c0 := hu ▸ HD1.out; clear hu; go_simp <;> rfl)); simp only [Act.put, List.setIfInBounds_toArray, List.set_cons_zero, List.set_cons_succ])
        iterate 2 (refine schT_take ?_ rfl ?_ ?_; rotate_left; (focus (intro u hu; go_simp <;> rfl)); simp only [Act.put, List.setIfInBounds_toArray, List.set_cons_zero, List.set_cons_succ])
        (refine schT_take ?_ rfl ?_ ?_; rotate_left; (focus (intro u hu; have c0 := hu ▸ HCN.out; clear hu; go_simp <;> rfl)); simp only [Act.put, List.setIfInBounds_toArray, List.set_cons_zero, List.set_cons_succ])
        (refine schT_take ?_ rfl ?_ ?_; rotate_left; (focus (intro u hu; have hw := HWR.out; clear hu; go_simp <;> rfl)); simp only [Act.put, List.setIfInBounds_toArray, List.set_cons_zero, List.set_cons_succ])
        (refine schT_take ?_ rfl ?_ ?_; rotate_left; (focus (intro u hu; have hr := HR1.out; clear hu; go_simp <;> rfl)); simp only [Act.put, List.setIfInBounds_toArray, List.set_cons_zero, List.set_cons_succ])
        iterate 3 (refine schT_take ?_ rfl ?_ ?_; rotate_left; (focus (intro u hu; go_simp <;> rfl)); simp only [Act.put, List.setIfInBounds_toArray, List.set_cons_zero, List.set_cons_succ])
        (refine schT_take ?_ rfl ?_ ?_; rotate_left; (focus (intro u hu; have c0 := hu ▸ HD2.out; clear hu; go_simp <;> rfl)); simp only [Act.put, List.setIfInBounds_toArray, List.set_cons_zero, List.set_cons_succ])
        iterate 2 (refine schT_take ?_ rfl ?_ ?_; rotate_left; (focus (intro u hu; go_simp <;> rfl)); simp only [Act.put, List.setIfInBounds_toArray, List.set_cons_zero, List.set_cons_succ])
        (refine schT_take ?_ rfl ?_ ?_; rotate_left; (focus (intro u hu; have c0 := hu ▸ HCV.out; clear hu; go_simp <;> rfl)); simp only [Act.put, List.setIfInBounds_toArray, List.set_cons_zero, List.set_cons_succ])
        refine schT_nil ?_
        refine schT_last rfl rfl ?_
        refine wp_copyB (.tmp 27) (.tmp 34) rfl ib (512 * x) nb ic (nb - 512 * x) (ic - 512 * x) _ l _ rfl rfl HWD.out HBY.out (by have := HXE.out; have := HLL.out; omega) (by have := HXE.out; omega) ?_
        intro w3 o3 t3 s3
        go_wp2_with fail
        go_roundw
        case rel => exact ⟨k + 1, by omega, by go_num, by rw [HST.out]; exact o3, HTD.out.trans t3 (fun _ _ h => h)⟩
        case measure => simp [intOf]; omega
      · obtain rfl : k = s.C.length := by omega
        have hkn : ¬ ((s.C.length : Nat) : Int) < (n1 : Int) := by have := NN.out; omega
        have hobj := (HT.out.block g (HFT.out.lt g HFT.out.g) (fun e => HA.out.ib_g e.symm)).trans HA.out.obj
        obtain ⟨d0, d1, d2, d3, f1, f2, f3⟩ := robj_cells hobj
        have HX := Lib.hid (rsettled HA.out HFT.out HO.out HW.out HT.out)
        have hgs : ∀ k, S k → k < w1.heap.size := HFT.out.lt
        clear hobj
        go_wp2_with fail
        go_ret
        rw [HR.out]
        have hsz : ((wr.setCell ⟨g, 1, none⟩ (.slice none 0 0)).setCell ⟨g, 2, none⟩ (.slice none 0 0)).heap.size = wr.heap.size := by rw [setCell_size, setCell_size]
        have htr : Trn S w ((wr.setCell ⟨g, 1, none⟩ (.slice none 0 0)).setCell ⟨g, 2, none⟩ (.slice none 0 0)) := ((HT1.out.trans (HT.out.wide (T := S) (fun _ e => e ▸ HFT.out.ib)) (fun _ _ h => h)).setCell _ (fun _ => HFT.out.g)).setCell _ (fun _ => HFT.out.g)
        refine ⟨rfl, Ref.more ⟨ib, ic, _, _, _, HX.out, ⟨HFT.out.g, HFT.out.ib, fun k hk => (by cases hk), fun k hk => (by cases hk), fun v hv => (by cases hv), fun k hk => by rw [hsz]; exact Nat.lt_of_lt_of_le (hgs k hk) HT.out.size⟩, HO.out.settle _⟩ htr.size HLT.out, htr⟩
  · have HR : Hid (flushR s = (8, tick s)) := by rw [Hid]; unfold flushR; rw [hbl]; rfl
    rw [hbl] at HF
    clear hbl
    go_enter Try.func12, Try.ntmps12
    go_wp2_with fail
    refine HF.out.mono ?_
    rintro e w1 ⟨rfl, hd1, ht1, hs1⟩
    have HD1 := Lib.hid hd1
    have HT1 := Lib.hid ht1
    clear hd1 ht1 hs1
    go_wp2_with fail
    go_ret
    rw [HR.out]
    exact ⟨rfl, HD1.out.more HT1.out.size HLT.out, HT1.out⟩

theorem Rowz.trnN {w w' : World} {S : Nat → Prop} {v : Value} {vs : List Value} (h : Rowz w v vs) (ht : Trn S w w') (hn : vs ≠ [] → ∀ k, v.ownBlock = some k → ¬ S k) : Rowz w' v vs := by
  by_cases h0 : vs = []
  · subst h0
    obtain ⟨A, c, rfl, h1, h2, h3⟩ := h
    exact ⟨A, c, rfl, h1, h2, .inl rfl⟩
  · exact h.trn ht (hn h0)
set_option maxRecDepth 100000 in
set_option maxHeartbeats 40000000 in
theorem rcrash_is (w : World) (S : Nat → Prop) (g : Nat) (s : St) (vk : Value) (keep : List Bool) (torn bytes : Int) (h : Ref w S g s) (hv : Rowz w vk (keep.map Value.bool)) (hn : keep ≠ [] → ∀ k, vk.ownBlock = some k → ¬ S k) :
    Calls Try.prog 17 #[.pointer (some ⟨g, 0, none⟩), .agg (crashV vk torn bytes)] w (RDone w S g (0, crashS s keep torn bytes)) := by
  have HLT := Lib.hid h.lt
  obtain ⟨Ak, mk, ck, rfl, Nk, hkc, hkm⟩ := hv.form
  rw [List.length_map] at Nk
  obtain ⟨w1, hw1⟩ : ∃ w1, w1 = w.alloc (.cells (crashV (.slice Ak mk ck) torn bytes) 34) := ⟨_, rfl⟩
  have HB1 : Hid (Below w.heap.size w w1) := hw1 ▸ below_new w _
  have HBX : Hid (w1.heap[w.heap.size]? = some (.cells (crashV (.slice Ak mk ck) torn bytes) 34)) := hw1 ▸ heap_alloc_new w _
  have HW1 := Lib.hid hw1
  have hd1 := h.below HB1.out
  have HKV := Lib.hid (hv.below HB1.out)
  have HNS := Lib.hid hn
  clear h hv hw1 hn
  obtain ⟨ib, ic, vn, vc, vs, ha, F, ok⟩ := hd1
  have HIB : Hid (ib < w.heap.size) := HLT.out ib F.ib
  have HNI : Hid (keep.map Value.bool ≠ [] → ∀ k, (Value.slice Ak mk ck).ownBlock = some k → k ≠ ib) := fun hne k hk e => HNS.out (fun h0 => hne (by rw [h0]; rfl)) k hk (e ▸ F.ib)
  have HA := Lib.hid ha
  have HFT := Lib.hid F
  have HO := Lib.hid ok
  have hcn := ok.cnt
  have hno : ∃ A1 n1 c1, vn = .slice A1 n1 c1 ∧ Hid (n1 = s.C.length) ∧ n1 ≤ c1 ∧ c1 ≤ 9223372036854775807 := by
    obtain ⟨A1, n1, c1, e, N1, h1, h2⟩ := (ints_rowz ha.ord).form
    exact ⟨A1, n1, c1, e, by have := N1.out; rw [inz_len, keysC_len] at this; exact this, h1, h2⟩
  obtain ⟨A1, n1, c1, rfl, NN, hnc1, hcm1⟩ := hno
  have hic : s.B.length ≤ ic ∧ ic ≤ 9223372036854775807 := by
    obtain ⟨_, c', e, h3, h4, _⟩ := Own.byt ha.img
    injection e with _ _ e3
    subst e3
    unfold maxLen at h4
    exact ⟨h3, by omega⟩
  clear ha F ok
  go_enter Try.func17, Try.ntmps17
  unfold crashV
  go_wp2_with fail
  rw [show w.alloc (.cells #[.slice Ak mk ck, .int .i64 torn, .int .i64 bytes] 34) = w1 from HW1.out.symm]
  clear HW1
  go_loopw [5] (fun i wr => SettleRel w1 ib ic s.B.length (keptN keep torn bytes) s.B s.C i wr) (fun i _ => n1 - (intOf i).toNat)
  case atStart => exact ⟨0, by omega, rfl, HA.out.img, Trn.refl _ _⟩
  case round =>
    obtain ⟨k, hk, rfl, hown, htrn⟩ := hrel
    have HW := Lib.hid hown
    have HT := Lib.hid htrn
    have hbx : wr.heap[w.heap.size]? = some (.cells (crashV (.slice Ak mk ck) torn bytes) 34) := (htrn.block w.heap.size (Array.getElem?_eq_some_iff.1 HBX.out).1 (fun e => by have := HIB.out; omega)).trans HBX.out
    have q0 : wr.cell? ⟨w.heap.size, 0, none⟩ = some (.slice Ak mk ck) := by rw [cell_of_row _ _ _ _ _ _ hbx]; rfl
    have q1 : wr.cell? ⟨w.heap.size, 1, none⟩ = some (.int .i64 torn) := by rw [cell_of_row _ _ _ _ _ _ hbx]; rfl
    have q2 : wr.cell? ⟨w.heap.size, 2, none⟩ = some (.int .i64 bytes) := by rw [cell_of_row _ _ _ _ _ _ hbx]; rfl
    have HKR := Lib.hid (HKV.out.trnN htrn HNI.out)
    clear hown htrn hbx
    by_cases hlt : k < s.C.length
    · obtain ⟨A1', n1', c1', A2, n2, c2, b1, o1, b2, o2, Av, nv, cv, hvn, rfl, rfl, rfl, hkn1, hkn2, d0, d1, d2, e1, e2, hby, hnv, hcv1, hcv2⟩ := round_facts HA.out HFT.out HO.out HT.out hlt
      injection hvn with hv1 hv2 hv3
      subst hv1 hv2 hv3
      have hrow := HO.out.rows _ (List.getElem_mem hlt)
      have hst : settleTo (keptN keep torn bytes) s.B s.C (k + 1) = splice (settleTo (keptN keep torn bytes) s.B s.C k) (512 * s.C[k].1) (s.C[k].2.take (keptN keep torn bytes k)) := by
        show splice _ _ _ = _
        rw [getD_at s.C k hlt]
      have hwh := HO.out.whole
      have hfew := HO.out.few
      have hkn : (k : Int) < (n1 : Int) := by omega
      have hkn' : (k : Int) < (n2 : Int) := by omega
      generalize s.C[k].1 = x at *
      generalize s.C[k].2 = l at *
      have HXE : Hid (512 * (x + 1) ≤ s.B.length) := by rw [Hid]; have := hrow.1; omega
      have HLL := Lib.hid hrow.2
      have HST := Lib.hid hst
      have HR1 := Lib.hid (dstRun (ib := ib) HXE.out hic.1)
      have HWR := Lib.hid (wrapMul (x := x) (by have := hrow.1; omega))
      have HD0 := Lib.hid (show wr.drew.cell? _ = _ from d0)
      have HD1 := Lib.hid (show wr.drew.cell? _ = _ from d1)
      have HD2 := Lib.hid (show wr.drew.cell? _ = _ from d2)
      have HCN := Lib.hid (show wr.drew.cell? _ = _ from e1)
      have HCV := Lib.hid (show wr.drew.cell? _ = _ from e2)
      have HBY := Lib.hid hby
      have HWD := Lib.hid (show Own wr.drew 0 5 _ _ from HW.out)
      have HTD := Lib.hid (show Trn (fun x => x = ib) w1 wr.drew from HT.out.drew)
      have hmx := HO.out.short
      subst hnv
      clear e1 e2 hby hst hrow hwh hfew HW HT d0 d2
      generalize s.B.length = nb at *
      by_cases hkl : k < keep.length
      · obtain ⟨bk, ok, rfl, _, hck⟩ := HKR.out.at (k := k) (by rw [List.length_map]; exact hkl)
        have hkk := hck k (by rw [List.length_map]; exact hkl)
        rw [List.getElem_map] at hkk
        have hkm' : (k : Int) < (mk : Int) := by have := Nk.out; omega
        have HKG0 : Hid (keep.getD k false = keep[k]) := getD_bool hkl
        generalize keep[k] = bb at *
        clear hck
        cases bb
        · have HKG : Hid (keep.getD k false = false) := HKG0.out
          by_cases ht : (k : Int) = torn ∧ 0 ≤ bytes ∧ bytes ≤ 512
          · obtain ⟨h1, h2, h3⟩ := ht
            obtain ⟨nbt, rfl⟩ := Int.eq_ofNat_of_zero_le h2
            have h1' : ((k : Int) == torn) = true := by simp [h1]
            have HFK : Hid (keptN keep torn (nbt : Int) k = nbt) := by rw [Hid]; unfold keptN; rw [if_pos ⟨h1, h2, h3⟩]; rfl
            clear h1
            obtain ⟨A3, n3, c3, r3, b3, _, _, _⟩ := HBY.out.uptorun 37 elemByte sizeByte nbt (by omega) .i64
            have HR2 : Hid (∀ W, (Instr.slice 37 (.slice Av 512 cv) none (some (.int .i64 (nbt : Int))) none).run Try.prog W = .ok (.slice A3 n3 c3) W) := r3
            have HSR := Lib.hid (show Byt wr.drew _ _ from b3)
            have HLT2 : Hid ((l.take nbt).length ≤ 512) := by rw [Hid, List.length_take]; omega
            rw [HFK.out] at HST
            clear r3 b3 HFK
            go_wp2_with fail
            refine wp_region_T (R := fun x y => x = y) (by kernel_rfl) (fun _ => rfl) (fun h k => h.trans k) (by kernel_rfl) 22 rfl (by kernel_rfl) (by kernel_rfl) (fun d v c a w h => by cases d <;> exact h)
              [(0, false), (1, false), (2, false), (3, false), (4, false), (5, false), (6, false), (7, false), (8, false), (9, false), (10, false), (11, false), (12, false), (13, false), (14, false), (15, false), (16, false), (17, false), (18, false), (19, false), (20, false), (21, false)] rfl (by kernel_rfl) ?_
            simp only [sel, List.getElem?_toArray, List.getElem?_cons_succ, List.getElem?_cons_zero]
            generalize wr.drew = wd at *
            iterate 3 (refine schT_take ?_ rfl ?_ ?_; rotate_left; (focus (intro u hu; go_simp <;> rfl)); simp only [Act.put, List.setIfInBounds_toArray, List.set_cons_zero, List.set_cons_succ])
            (refine schT_take ?_ rfl ?_ ?_; rotate_left; (focus (intro u hu; have c0 := hu ▸ HD0.out; clear hu; go_simp <;> rfl)); simp only [Act.put, List.setIfInBounds_toArray, List.set_cons_zero, List.set_cons_succ])
            iterate 3 (refine schT_take ?_ rfl ?_ ?_; rotate_left; (focus (intro u hu; go_simp <;> rfl)); simp only [Act.put, List.setIfInBounds_toArray, List.set_cons_zero, List.set_cons_succ])
            (refine schT_take ?_ rfl ?_ ?_; rotate_left; (focus (intro u hu; have c0 := hu ▸ HD1.out; clear hu; go_simp <;> rfl)); simp only [Act.put, List.setIfInBounds_toArray, List.set_cons_zero, List.set_cons_succ])
            iterate 2 (refine schT_take ?_ rfl ?_ ?_; rotate_left; (focus (intro u hu; go_simp <;> rfl)); simp only [Act.put, List.setIfInBounds_toArray, List.set_cons_zero, List.set_cons_succ])
            (refine schT_take ?_ rfl ?_ ?_; rotate_left; (focus (intro u hu; have c0 := hu ▸ HCN.out; clear hu; go_simp <;> rfl)); simp only [Act.put, List.setIfInBounds_toArray, List.set_cons_zero, List.set_cons_succ])
            (refine schT_take ?_ rfl ?_ ?_; rotate_left; (focus (intro u hu; have hw := HWR.out; clear hu; go_simp <;> rfl)); simp only [Act.put, List.setIfInBounds_toArray, List.set_cons_zero, List.set_cons_succ])
            (refine schT_take ?_ rfl ?_ ?_; rotate_left; (focus (intro u hu; have hr := HR1.out; clear hu; go_simp <;> rfl)); simp only [Act.put, List.setIfInBounds_toArray, List.set_cons_zero, List.set_cons_succ])
            iterate 3 (refine schT_take ?_ rfl ?_ ?_; rotate_left; (focus (intro u hu; go_simp <;> rfl)); simp only [Act.put, List.setIfInBounds_toArray, List.set_cons_zero, List.set_cons_succ])
            (refine schT_take ?_ rfl ?_ ?_; rotate_left; (focus (intro u hu; have c0 := hu ▸ HD2.out; clear hu; go_simp <;> rfl)); simp only [Act.put, List.setIfInBounds_toArray, List.set_cons_zero, List.set_cons_succ])
            iterate 2 (refine schT_take ?_ rfl ?_ ?_; rotate_left; (focus (intro u hu; go_simp <;> rfl)); simp only [Act.put, List.setIfInBounds_toArray, List.set_cons_zero, List.set_cons_succ])
            (refine schT_take ?_ rfl ?_ ?_; rotate_left; (focus (intro u hu; have c0 := hu ▸ HCV.out; clear hu; go_simp <;> rfl)); simp only [Act.put, List.setIfInBounds_toArray, List.set_cons_zero, List.set_cons_succ])
            (refine schT_take ?_ rfl ?_ ?_; rotate_left; (focus (intro u hu; go_simp <;> rfl)); simp only [Act.put, List.setIfInBounds_toArray, List.set_cons_zero, List.set_cons_succ])
            (refine schT_take ?_ rfl ?_ ?_; rotate_left; (focus (intro u hu; have hr := HR2.out; clear hu; go_simp <;> rfl)); simp only [Act.put, List.setIfInBounds_toArray, List.set_cons_zero, List.set_cons_succ])
            refine schT_nil ?_
            refine schT_last rfl rfl ?_
            refine wp_copyB (.tmp 56) (.tmp 65) rfl ib (512 * x) nb ic (nb - 512 * x) (ic - 512 * x) _ (l.take nbt) _ rfl rfl HWD.out HSR.out (by have := HXE.out; have := HLT2.out; omega) (by have := HXE.out; omega) ?_
            intro w3 o3 t3 s3
            go_wp2_with fail
            go_roundw
            case rel => exact ⟨k + 1, by omega, by go_num, by rw [HST.out]; exact o3, HTD.out.trans t3 (fun _ _ h => h)⟩
            case measure => simp [intOf]; omega
          · have HFK : Hid (keptN keep torn bytes k = 0) := by rw [Hid]; unfold keptN; rw [if_neg ht, HKG.out]; rfl
            by_cases e1 : (k : Int) = torn
            · have h1' : ((k : Int) == torn) = true := by simp [e1]
              by_cases e2 : 0 ≤ bytes
              · have e3 : ¬ bytes ≤ 512 := fun h => ht ⟨e1, e2, h⟩
                clear ht e1
                obtain ⟨A3, n3, c3, r3, b3, _, _, _⟩ := HBY.out.uptorun 37 elemByte sizeByte 0 (by omega) .i64
                have HR2 : Hid (∀ W, (Instr.slice 37 (.slice Av 512 cv) none (some (.int .i64 0)) none).run Try.prog W = .ok (.slice A3 n3 c3) W) := r3
                have HSR := Lib.hid (show Byt wr.drew _ _ from b3)
                have HLT2 : Hid ((l.take 0).length ≤ 512) := by rw [Hid, List.length_take]; omega
                rw [HFK.out] at HST
                clear r3 b3 HFK
                go_wp2_with fail
                refine wp_region_T (R := fun x y => x = y) (by kernel_rfl) (fun _ => rfl) (fun h k => h.trans k) (by kernel_rfl) 22 rfl (by kernel_rfl) (by kernel_rfl) (fun d v c a w h => by cases d <;> exact h)
                  [(0, false), (1, false), (2, false), (3, false), (4, false), (5, false), (6, false), (7, false), (8, false), (9, false), (10, false), (11, false), (12, false), (13, false), (14, false), (15, false), (16, false), (17, false), (18, false), (19, false), (20, false), (21, false)] rfl (by kernel_rfl) ?_
                simp only [sel, List.getElem?_toArray, List.getElem?_cons_succ, List.getElem?_cons_zero]
                generalize wr.drew = wd at *
                iterate 3 (refine schT_take ?_ rfl ?_ ?_; rotate_left; (focus (intro u hu; go_simp <;> rfl)); simp only [Act.put, List.setIfInBounds_toArray, List.set_cons_zero, List.set_cons_succ])
                (refine schT_take ?_ rfl ?_ ?_; rotate_left; (focus (intro u hu; have c0 := hu ▸ HD0.out; clear hu; go_simp <;> rfl)); simp only [Act.put, List.setIfInBounds_toArray, List.set_cons_zero, List.set_cons_succ])
                iterate 3 (refine schT_take ?_ rfl ?_ ?_; rotate_left; (focus (intro u hu; go_simp <;> rfl)); simp only [Act.put, List.setIfInBounds_toArray, List.set_cons_zero, List.set_cons_succ])
                (refine schT_take ?_ rfl ?_ ?_; rotate_left; (focus (intro u hu; have c0 := hu ▸ HD1.out; clear hu; go_simp <;> rfl)); simp only [Act.put, List.setIfInBounds_toArray, List.set_cons_zero, List.set_cons_succ])
                iterate 2 (refine schT_take ?_ rfl ?_ ?_; rotate_left; (focus (intro u hu; go_simp <;> rfl)); simp only [Act.put, List.setIfInBounds_toArray, List.set_cons_zero, List.set_cons_succ])
                (refine schT_take ?_ rfl ?_ ?_; rotate_left; (focus (intro u hu; have c0 := hu ▸ HCN.out; clear hu; go_simp <;> rfl)); simp only [Act.put, List.setIfInBounds_toArray, List.set_cons_zero, List.set_cons_succ])
                (refine schT_take ?_ rfl ?_ ?_; rotate_left; (focus (intro u hu; have hw := HWR.out; clear hu; go_simp <;> rfl)); simp only [Act.put, List.setIfInBounds_toArray, List.set_cons_zero, List.set_cons_succ])
                (refine schT_take ?_ rfl ?_ ?_; rotate_left; (focus (intro u hu; have hr := HR1.out; clear hu; go_simp <;> rfl)); simp only [Act.put, List.setIfInBounds_toArray, List.set_cons_zero, List.set_cons_succ])
                iterate 3 (refine schT_take ?_ rfl ?_ ?_; rotate_left; (focus (intro u hu; go_simp <;> rfl)); simp only [Act.put, List.setIfInBounds_toArray, List.set_cons_zero, List.set_cons_succ])
                (refine schT_take ?_ rfl ?_ ?_; rotate_left; (focus (intro u hu; have c0 := hu ▸ HD2.out; clear hu; go_simp <;> rfl)); simp only [Act.put, List.setIfInBounds_toArray, List.set_cons_zero, List.set_cons_succ])
                iterate 2 (refine schT_take ?_ rfl ?_ ?_; rotate_left; (focus (intro u hu; go_simp <;> rfl)); simp only [Act.put, List.setIfInBounds_toArray, List.set_cons_zero, List.set_cons_succ])
                (refine schT_take ?_ rfl ?_ ?_; rotate_left; (focus (intro u hu; have c0 := hu ▸ HCV.out; clear hu; go_simp <;> rfl)); simp only [Act.put, List.setIfInBounds_toArray, List.set_cons_zero, List.set_cons_succ])
                (refine schT_take ?_ rfl ?_ ?_; rotate_left; (focus (intro u hu; go_simp <;> rfl)); simp only [Act.put, List.setIfInBounds_toArray, List.set_cons_zero, List.set_cons_succ])
                (refine schT_take ?_ rfl ?_ ?_; rotate_left; (focus (intro u hu; have hr := HR2.out; clear hu; go_simp <;> rfl)); simp only [Act.put, List.setIfInBounds_toArray, List.set_cons_zero, List.set_cons_succ])
                refine schT_nil ?_
                refine schT_last rfl rfl ?_
                refine wp_copyB (.tmp 56) (.tmp 65) rfl ib (512 * x) nb ic (nb - 512 * x) (ic - 512 * x) _ (l.take 0) _ rfl rfl HWD.out HSR.out (by have := HXE.out; have := HLT2.out; omega) (by have := HXE.out; omega) ?_
                intro w3 o3 t3 s3
                go_wp2_with fail
                go_roundw
                case rel => exact ⟨k + 1, by omega, by go_num, by rw [HST.out]; exact o3, HTD.out.trans t3 (fun _ _ h => h)⟩
                case measure => simp [intOf]; omega
              · clear ht e1
                obtain ⟨A3, n3, c3, r3, b3, _, _, _⟩ := HBY.out.uptorun 37 elemByte sizeByte 0 (by omega) .i64
                have HR2 : Hid (∀ W, (Instr.slice 37 (.slice Av 512 cv) none (some (.int .i64 0)) none).run Try.prog W = .ok (.slice A3 n3 c3) W) := r3
                have HSR := Lib.hid (show Byt wr.drew _ _ from b3)
                have HLT2 : Hid ((l.take 0).length ≤ 512) := by rw [Hid, List.length_take]; omega
                rw [HFK.out] at HST
                clear r3 b3 HFK
                go_wp2_with fail
                refine wp_region_T (R := fun x y => x = y) (by kernel_rfl) (fun _ => rfl) (fun h k => h.trans k) (by kernel_rfl) 22 rfl (by kernel_rfl) (by kernel_rfl) (fun d v c a w h => by cases d <;> exact h)
                  [(0, false), (1, false), (2, false), (3, false), (4, false), (5, false), (6, false), (7, false), (8, false), (9, false), (10, false), (11, false), (12, false), (13, false), (14, false), (15, false), (16, false), (17, false), (18, false), (19, false), (20, false), (21, false)] rfl (by kernel_rfl) ?_
                simp only [sel, List.getElem?_toArray, List.getElem?_cons_succ, List.getElem?_cons_zero]
                generalize wr.drew = wd at *
                iterate 3 (refine schT_take ?_ rfl ?_ ?_; rotate_left; (focus (intro u hu; go_simp <;> rfl)); simp only [Act.put, List.setIfInBounds_toArray, List.set_cons_zero, List.set_cons_succ])
                (refine schT_take ?_ rfl ?_ ?_; rotate_left; (focus (intro u hu; have c0 := hu ▸ HD0.out; clear hu; go_simp <;> rfl)); simp only [Act.put, List.setIfInBounds_toArray, List.set_cons_zero, List.set_cons_succ])
                iterate 3 (refine schT_take ?_ rfl ?_ ?_; rotate_left; (focus (intro u hu; go_simp <;> rfl)); simp only [Act.put, List.setIfInBounds_toArray, List.set_cons_zero, List.set_cons_succ])
                (refine schT_take ?_ rfl ?_ ?_; rotate_left; (focus (intro u hu; have c0 := hu ▸ HD1.out; clear hu; go_simp <;> rfl)); simp only [Act.put, List.setIfInBounds_toArray, List.set_cons_zero, List.set_cons_succ])
                iterate 2 (refine schT_take ?_ rfl ?_ ?_; rotate_left; (focus (intro u hu; go_simp <;> rfl)); simp only [Act.put, List.setIfInBounds_toArray, List.set_cons_zero, List.set_cons_succ])
                (refine schT_take ?_ rfl ?_ ?_; rotate_left; (focus (intro u hu; have c0 := hu ▸ HCN.out; clear hu; go_simp <;> rfl)); simp only [Act.put, List.setIfInBounds_toArray, List.set_cons_zero, List.set_cons_succ])
                (refine schT_take ?_ rfl ?_ ?_; rotate_left; (focus (intro u hu; have hw := HWR.out; clear hu; go_simp <;> rfl)); simp only [Act.put, List.setIfInBounds_toArray, List.set_cons_zero, List.set_cons_succ])
                (refine schT_take ?_ rfl ?_ ?_; rotate_left; (focus (intro u hu; have hr := HR1.out; clear hu; go_simp <;> rfl)); simp only [Act.put, List.setIfInBounds_toArray, List.set_cons_zero, List.set_cons_succ])
                iterate 3 (refine schT_take ?_ rfl ?_ ?_; rotate_left; (focus (intro u hu; go_simp <;> rfl)); simp only [Act.put, List.setIfInBounds_toArray, List.set_cons_zero, List.set_cons_succ])
                (refine schT_take ?_ rfl ?_ ?_; rotate_left; (focus (intro u hu; have c0 := hu ▸ HD2.out; clear hu; go_simp <;> rfl)); simp only [Act.put, List.setIfInBounds_toArray, List.set_cons_zero, List.set_cons_succ])
                iterate 2 (refine schT_take ?_ rfl ?_ ?_; rotate_left; (focus (intro u hu; go_simp <;> rfl)); simp only [Act.put, List.setIfInBounds_toArray, List.set_cons_zero, List.set_cons_succ])
                (refine schT_take ?_ rfl ?_ ?_; rotate_left; (focus (intro u hu; have c0 := hu ▸ HCV.out; clear hu; go_simp <;> rfl)); simp only [Act.put, List.setIfInBounds_toArray, List.set_cons_zero, List.set_cons_succ])
                (refine schT_take ?_ rfl ?_ ?_; rotate_left; (focus (intro u hu; go_simp <;> rfl)); simp only [Act.put, List.setIfInBounds_toArray, List.set_cons_zero, List.set_cons_succ])
                (refine schT_take ?_ rfl ?_ ?_; rotate_left; (focus (intro u hu; have hr := HR2.out; clear hu; go_simp <;> rfl)); simp only [Act.put, List.setIfInBounds_toArray, List.set_cons_zero, List.set_cons_succ])
                refine schT_nil ?_
                refine schT_last rfl rfl ?_
                refine wp_copyB (.tmp 56) (.tmp 65) rfl ib (512 * x) nb ic (nb - 512 * x) (ic - 512 * x) _ (l.take 0) _ rfl rfl HWD.out HSR.out (by have := HXE.out; have := HLT2.out; omega) (by have := HXE.out; omega) ?_
                intro w3 o3 t3 s3
                go_wp2_with fail
                go_roundw
                case rel => exact ⟨k + 1, by omega, by go_num, by rw [HST.out]; exact o3, HTD.out.trans t3 (fun _ _ h => h)⟩
                case measure => simp [intOf]; omega
            · have h1' : ((k : Int) == torn) = false := by simp [e1]
              clear ht e1
              obtain ⟨A3, n3, c3, r3, b3, _, _, _⟩ := HBY.out.uptorun 37 elemByte sizeByte 0 (by omega) .i64
              have HR2 : Hid (∀ W, (Instr.slice 37 (.slice Av 512 cv) none (some (.int .i64 0)) none).run Try.prog W = .ok (.slice A3 n3 c3) W) := r3
              have HSR := Lib.hid (show Byt wr.drew _ _ from b3)
              have HLT2 : Hid ((l.take 0).length ≤ 512) := by rw [Hid, List.length_take]; omega
              rw [HFK.out] at HST
              clear r3 b3 HFK
              go_wp2_with fail
              refine wp_region_T (R := fun x y => x = y) (by kernel_rfl) (fun _ => rfl) (fun h k => h.trans k) (by kernel_rfl) 22 rfl (by kernel_rfl) (by kernel_rfl) (fun d v c a w h => by cases d <;> exact h)
                [(0, false), (1, false), (2, false), (3, false), (4, false), (5, false), (6, false), (7, false), (8, false), (9, false), (10, false), (11, false), (12, false), (13, false), (14, false), (15, false), (16, false), (17, false), (18, false), (19, false), (20, false), (21, false)] rfl (by kernel_rfl) ?_
              simp only [sel, List.getElem?_toArray, List.getElem?_cons_succ, List.getElem?_cons_zero]
              generalize wr.drew = wd at *
              iterate 3 (refine schT_take ?_ rfl ?_ ?_; rotate_left; (focus (intro u hu; go_simp <;> rfl)); simp only [Act.put, List.setIfInBounds_toArray, List.set_cons_zero, List.set_cons_succ])
              (refine schT_take ?_ rfl ?_ ?_; rotate_left; (focus (intro u hu; have c0 := hu ▸ HD0.out; clear hu; go_simp <;> rfl)); simp only [Act.put, List.setIfInBounds_toArray, List.set_cons_zero, List.set_cons_succ])
              iterate 3 (refine schT_take ?_ rfl ?_ ?_; rotate_left; (focus (intro u hu; go_simp <;> rfl)); simp only [Act.put, List.setIfInBounds_toArray, List.set_cons_zero, List.set_cons_succ])
              (refine schT_take ?_ rfl ?_ ?_; rotate_left; (focus (intro u hu; have c0 := hu ▸ HD1.out; clear hu; go_simp <;> rfl)); simp only [Act.put, List.setIfInBounds_toArray, List.set_cons_zero, List.set_cons_succ])
              iterate 2 (refine schT_take ?_ rfl ?_ ?_; rotate_left; (focus (intro u hu; go_simp <;> rfl)); simp only [Act.put, List.setIfInBounds_toArray, List.set_cons_zero, List.set_cons_succ])
              (refine schT_take ?_ rfl ?_ ?_; rotate_left; (focus (intro u hu; have c0 := hu ▸ HCN.out; clear hu; go_simp <;> rfl)); simp only [Act.put, List.setIfInBounds_toArray, List.set_cons_zero, List.set_cons_succ])
              (refine schT_take ?_ rfl ?_ ?_; rotate_left; (focus (intro u hu; have hw := HWR.out; clear hu; go_simp <;> rfl)); simp only [Act.put, List.setIfInBounds_toArray, List.set_cons_zero, List.set_cons_succ])
              (refine schT_take ?_ rfl ?_ ?_; rotate_left; (focus (intro u hu; have hr := HR1.out; clear hu; go_simp <;> rfl)); simp only [Act.put, List.setIfInBounds_toArray, List.set_cons_zero, List.set_cons_succ])
              iterate 3 (refine schT_take ?_ rfl ?_ ?_; rotate_left; (focus (intro u hu; go_simp <;> rfl)); simp only [Act.put, List.setIfInBounds_toArray, List.set_cons_zero, List.set_cons_succ])
              (refine schT_take ?_ rfl ?_ ?_; rotate_left; (focus (intro u hu; have c0 := hu ▸ HD2.out; clear hu; go_simp <;> rfl)); simp only [Act.put, List.setIfInBounds_toArray, List.set_cons_zero, List.set_cons_succ])
              iterate 2 (refine schT_take ?_ rfl ?_ ?_; rotate_left; (focus (intro u hu; go_simp <;> rfl)); simp only [Act.put, List.setIfInBounds_toArray, List.set_cons_zero, List.set_cons_succ])
              (refine schT_take ?_ rfl ?_ ?_; rotate_left; (focus (intro u hu; have c0 := hu ▸ HCV.out; clear hu; go_simp <;> rfl)); simp only [Act.put, List.setIfInBounds_toArray, List.set_cons_zero, List.set_cons_succ])
              (refine schT_take ?_ rfl ?_ ?_; rotate_left; (focus (intro u hu; go_simp <;> rfl)); simp only [Act.put, List.setIfInBounds_toArray, List.set_cons_zero, List.set_cons_succ])
              (refine schT_take ?_ rfl ?_ ?_; rotate_left; (focus (intro u hu; have hr := HR2.out; clear hu; go_simp <;> rfl)); simp only [Act.put, List.setIfInBounds_toArray, List.set_cons_zero, List.set_cons_succ])
              refine schT_nil ?_
              refine schT_last rfl rfl ?_
              refine wp_copyB (.tmp 56) (.tmp 65) rfl ib (512 * x) nb ic (nb - 512 * x) (ic - 512 * x) _ (l.take 0) _ rfl rfl HWD.out HSR.out (by have := HXE.out; have := HLT2.out; omega) (by have := HXE.out; omega) ?_
              intro w3 o3 t3 s3
              go_wp2_with fail
              go_roundw
              case rel => exact ⟨k + 1, by omega, by go_num, by rw [HST.out]; exact o3, HTD.out.trans t3 (fun _ _ h => h)⟩
              case measure => simp [intOf]; omega
        · have HKG : Hid (keep.getD k false = true) := HKG0.out
          by_cases ht : (k : Int) = torn ∧ 0 ≤ bytes ∧ bytes ≤ 512
          · obtain ⟨h1, h2, h3⟩ := ht
            obtain ⟨nbt, rfl⟩ := Int.eq_ofNat_of_zero_le h2
            have h1' : ((k : Int) == torn) = true := by simp [h1]
            have HFK : Hid (keptN keep torn (nbt : Int) k = nbt) := by rw [Hid]; unfold keptN; rw [if_pos ⟨h1, h2, h3⟩]; rfl
            clear h1
            obtain ⟨A3, n3, c3, r3, b3, _, _, _⟩ := HBY.out.uptorun 37 elemByte sizeByte nbt (by omega) .i64
            have HR2 : Hid (∀ W, (Instr.slice 37 (.slice Av 512 cv) none (some (.int .i64 (nbt : Int))) none).run Try.prog W = .ok (.slice A3 n3 c3) W) := r3
            have HSR := Lib.hid (show Byt wr.drew _ _ from b3)
            have HLT2 : Hid ((l.take nbt).length ≤ 512) := by rw [Hid, List.length_take]; omega
            rw [HFK.out] at HST
            clear r3 b3 HFK
            go_wp2_with fail
            refine wp_region_T (R := fun x y => x = y) (by kernel_rfl) (fun _ => rfl) (fun h k => h.trans k) (by kernel_rfl) 22 rfl (by kernel_rfl) (by kernel_rfl) (fun d v c a w h => by cases d <;> exact h)
              [(0, false), (1, false), (2, false), (3, false), (4, false), (5, false), (6, false), (7, false), (8, false), (9, false), (10, false), (11, false), (12, false), (13, false), (14, false), (15, false), (16, false), (17, false), (18, false), (19, false), (20, false), (21, false)] rfl (by kernel_rfl) ?_
            simp only [sel, List.getElem?_toArray, List.getElem?_cons_succ, List.getElem?_cons_zero]
            generalize wr.drew = wd at *
            iterate 3 (refine schT_take ?_ rfl ?_ ?_; rotate_left; (focus (intro u hu; go_simp <;> rfl)); simp only [Act.put, List.setIfInBounds_toArray, List.set_cons_zero, List.set_cons_succ])
            (refine schT_take ?_ rfl ?_ ?_; rotate_left; (focus (intro u hu; have c0 := hu ▸ HD0.out; clear hu; go_simp <;> rfl)); simp only [Act.put, List.setIfInBounds_toArray, List.set_cons_zero, List.set_cons_succ])
            iterate 3 (refine schT_take ?_ rfl ?_ ?_; rotate_left; (focus (intro u hu; go_simp <;> rfl)); simp only [Act.put, List.setIfInBounds_toArray, List.set_cons_zero, List.set_cons_succ])
            (refine schT_take ?_ rfl ?_ ?_; rotate_left; (focus (intro u hu; have c0 := hu ▸ HD1.out; clear hu; go_simp <;> rfl)); simp only [Act.put, List.setIfInBounds_toArray, List.set_cons_zero, List.set_cons_succ])
            iterate 2 (refine schT_take ?_ rfl ?_ ?_; rotate_left; (focus (intro u hu; go_simp <;> rfl)); simp only [Act.put, List.setIfInBounds_toArray, List.set_cons_zero, List.set_cons_succ])
            (refine schT_take ?_ rfl ?_ ?_; rotate_left; (focus (intro u hu; have c0 := hu ▸ HCN.out; clear hu; go_simp <;> rfl)); simp only [Act.put, List.setIfInBounds_toArray, List.set_cons_zero, List.set_cons_succ])
            (refine schT_take ?_ rfl ?_ ?_; rotate_left; (focus (intro u hu; have hw := HWR.out; clear hu; go_simp <;> rfl)); simp only [Act.put, List.setIfInBounds_toArray, List.set_cons_zero, List.set_cons_succ])
            (refine schT_take ?_ rfl ?_ ?_; rotate_left; (focus (intro u hu; have hr := HR1.out; clear hu; go_simp <;> rfl)); simp only [Act.put, List.setIfInBounds_toArray, List.set_cons_zero, List.set_cons_succ])
            iterate 3 (refine schT_take ?_ rfl ?_ ?_; rotate_left; (focus (intro u hu; go_simp <;> rfl)); simp only [Act.put, List.setIfInBounds_toArray, List.set_cons_zero, List.set_cons_succ])
            (refine schT_take ?_ rfl ?_ ?_; rotate_left; (focus (intro u hu; have c0 := hu ▸ HD2.out; clear hu; go_simp <;> rfl)); simp only [Act.put, List.setIfInBounds_toArray, List.set_cons_zero, List.set_cons_succ])
            iterate 2 (refine schT_take ?_ rfl ?_ ?_; rotate_left; (focus (intro u hu; go_simp <;> rfl)); simp only [Act.put, List.setIfInBounds_toArray, List.set_cons_zero, List.set_cons_succ])
            (refine schT_take ?_ rfl ?_ ?_; rotate_left; (focus (intro u hu; have c0 := hu ▸ HCV.out; clear hu; go_simp <;> rfl)); simp only [Act.put, List.setIfInBounds_toArray, List.set_cons_zero, List.set_cons_succ])
            (refine schT_take ?_ rfl ?_ ?_; rotate_left; (focus (intro u hu; go_simp <;> rfl)); simp only [Act.put, List.setIfInBounds_toArray, List.set_cons_zero, List.set_cons_succ])
            (refine schT_take ?_ rfl ?_ ?_; rotate_left; (focus (intro u hu; have hr := HR2.out; clear hu; go_simp <;> rfl)); simp only [Act.put, List.setIfInBounds_toArray, List.set_cons_zero, List.set_cons_succ])
            refine schT_nil ?_
            refine schT_last rfl rfl ?_
            refine wp_copyB (.tmp 56) (.tmp 65) rfl ib (512 * x) nb ic (nb - 512 * x) (ic - 512 * x) _ (l.take nbt) _ rfl rfl HWD.out HSR.out (by have := HXE.out; have := HLT2.out; omega) (by have := HXE.out; omega) ?_
            intro w3 o3 t3 s3
            go_wp2_with fail
            go_roundw
            case rel => exact ⟨k + 1, by omega, by go_num, by rw [HST.out]; exact o3, HTD.out.trans t3 (fun _ _ h => h)⟩
            case measure => simp [intOf]; omega
          · have HFK : Hid (keptN keep torn bytes k = 512) := by rw [Hid]; unfold keptN; rw [if_neg ht, HKG.out]; rfl
            by_cases e1 : (k : Int) = torn
            · have h1' : ((k : Int) == torn) = true := by simp [e1]
              by_cases e2 : 0 ≤ bytes
              · have e3 : ¬ bytes ≤ 512 := fun h => ht ⟨e1, e2, h⟩
                clear ht e1
                obtain ⟨A3, n3, c3, r3, b3, _, _, _⟩ := HBY.out.uptorun 37 elemByte sizeByte 512 (by omega) .i64
                have HR2 : Hid (∀ W, (Instr.slice 37 (.slice Av 512 cv) none (some (.int .i64 512)) none).run Try.prog W = .ok (.slice A3 n3 c3) W) := r3
                have HSR := Lib.hid (show Byt wr.drew _ _ from b3)
                have HLT2 : Hid ((l.take 512).length ≤ 512) := by rw [Hid, List.length_take]; omega
                rw [HFK.out] at HST
                clear r3 b3 HFK
                go_wp2_with fail
                refine wp_region_T (R := fun x y => x = y) (by kernel_rfl) (fun _ => rfl) (fun h k => h.trans k) (by kernel_rfl) 22 rfl (by kernel_rfl) (by kernel_rfl) (fun d v c a w h => by cases d <;> exact h)
                  [(0, false), (1, false), (2, false), (3, false), (4, false), (5, false), (6, false), (7, false), (8, false), (9, false), (10, false), (11, false), (12, false), (13, false), (14, false), (15, false), (16, false), (17, false), (18, false), (19, false), (20, false), (21, false)] rfl (by kernel_rfl) ?_
                simp only [sel, List.getElem?_toArray, List.getElem?_cons_succ, List.getElem?_cons_zero]
                generalize wr.drew = wd at *
                iterate 3 (refine schT_take ?_ rfl ?_ ?_; rotate_left; (focus (intro u hu; go_simp <;> rfl)); simp only [Act.put, List.setIfInBounds_toArray, List.set_cons_zero, List.set_cons_succ])
                (refine schT_take ?_ rfl ?_ ?_; rotate_left; (focus (intro u hu; have c0 := hu ▸ HD0.out; clear hu; go_simp <;> rfl)); simp only [Act.put, List.setIfInBounds_toArray, List.set_cons_zero, List.set_cons_succ])
                iterate 3 (refine schT_take ?_ rfl ?_ ?_; rotate_left; (focus (intro u hu; go_simp <;> rfl)); simp only [Act.put, List.setIfInBounds_toArray, List.set_cons_zero, List.set_cons_succ])
                (refine schT_take ?_ rfl ?_ ?_; rotate_left; (focus (intro u hu; have c0 := hu ▸ HD1.out; clear hu; go_simp <;> rfl)); simp only [Act.put, List.setIfInBounds_toArray, List.set_cons_zero, List.set_cons_succ])
                iterate 2 (refine schT_take ?_ rfl ?_ ?_; rotate_left; (focus (intro u hu; go_simp <;> rfl)); simp only [Act.put, List.setIfInBounds_toArray, List.set_cons_zero, List.set_cons_succ])
                (refine schT_take ?_ rfl ?_ ?_; rotate_left; (focus (intro u hu; have c0 := hu ▸ HCN.out; clear hu; go_simp <;> rfl)); simp only [Act.put, List.setIfInBounds_toArray, List.set_cons_zero, List.set_cons_succ])
                (refine schT_take ?_ rfl ?_ ?_; rotate_left; (focus (intro u hu; have hw := HWR.out; clear hu; go_simp <;> rfl)); simp only [Act.put, List.setIfInBounds_toArray, List.set_cons_zero, List.set_cons_succ])
                (refine schT_take ?_ rfl ?_ ?_; rotate_left; (focus (intro u hu; have hr := HR1.out; clear hu; go_simp <;> rfl)); simp only [Act.put, List.setIfInBounds_toArray, List.set_cons_zero, List.set_cons_succ])
                iterate 3 (refine schT_take ?_ rfl ?_ ?_; rotate_left; (focus (intro u hu; go_simp <;> rfl)); simp only [Act.put, List.setIfInBounds_toArray, List.set_cons_zero, List.set_cons_succ])
                (refine schT_take ?_ rfl ?_ ?_; rotate_left; (focus (intro u hu; have c0 := hu ▸ HD2.out; clear hu; go_simp <;> rfl)); simp only [Act.put, List.setIfInBounds_toArray, List.set_cons_zero, List.set_cons_succ])
                iterate 2 (refine schT_take ?_ rfl ?_ ?_; rotate_left; (focus (intro u hu; go_simp <;> rfl)); simp only [Act.put, List.setIfInBounds_toArray, List.set_cons_zero, List.set_cons_succ])
                (refine schT_take ?_ rfl ?_ ?_; rotate_left; (focus (intro u hu; have c0 := hu ▸ HCV.out; clear hu; go_simp <;> rfl)); simp only [Act.put, List.setIfInBounds_toArray, List.set_cons_zero, List.set_cons_succ])
                (refine schT_take ?_ rfl ?_ ?_; rotate_left; (focus (intro u hu; go_simp <;> rfl)); simp only [Act.put, List.setIfInBounds_toArray, List.set_cons_zero, List.set_cons_succ])
                (refine schT_take ?_ rfl ?_ ?_; rotate_left; (focus (intro u hu; have hr := HR2.out; clear hu; go_simp <;> rfl)); simp only [Act.put, List.setIfInBounds_toArray, List.set_cons_zero, List.set_cons_succ])
                refine schT_nil ?_
                refine schT_last rfl rfl ?_
                refine wp_copyB (.tmp 56) (.tmp 65) rfl ib (512 * x) nb ic (nb - 512 * x) (ic - 512 * x) _ (l.take 512) _ rfl rfl HWD.out HSR.out (by have := HXE.out; have := HLT2.out; omega) (by have := HXE.out; omega) ?_
                intro w3 o3 t3 s3
                go_wp2_with fail
                go_roundw
                case rel => exact ⟨k + 1, by omega, by go_num, by rw [HST.out]; exact o3, HTD.out.trans t3 (fun _ _ h => h)⟩
                case measure => simp [intOf]; omega
              · clear ht e1
                obtain ⟨A3, n3, c3, r3, b3, _, _, _⟩ := HBY.out.uptorun 37 elemByte sizeByte 512 (by omega) .i64
                have HR2 : Hid (∀ W, (Instr.slice 37 (.slice Av 512 cv) none (some (.int .i64 512)) none).run Try.prog W = .ok (.slice A3 n3 c3) W) := r3
                have HSR := Lib.hid (show Byt wr.drew _ _ from b3)
                have HLT2 : Hid ((l.take 512).length ≤ 512) := by rw [Hid, List.length_take]; omega
                rw [HFK.out] at HST
                clear r3 b3 HFK
                go_wp2_with fail
                refine wp_region_T (R := fun x y => x = y) (by kernel_rfl) (fun _ => rfl) (fun h k => h.trans k) (by kernel_rfl) 22 rfl (by kernel_rfl) (by kernel_rfl) (fun d v c a w h => by cases d <;> exact h)
                  [(0, false), (1, false), (2, false), (3, false), (4, false), (5, false), (6, false), (7, false), (8, false), (9, false), (10, false), (11, false), (12, false), (13, false), (14, false), (15, false), (16, false), (17, false), (18, false), (19, false), (20, false), (21, false)] rfl (by kernel_rfl) ?_
                simp only [sel, List.getElem?_toArray, List.getElem?_cons_succ, List.getElem?_cons_zero]
                generalize wr.drew = wd at *
                iterate 3 (refine schT_take ?_ rfl ?_ ?_; rotate_left; (focus (intro u hu; go_simp <;> rfl)); simp only [Act.put, List.setIfInBounds_toArray, List.set_cons_zero, List.set_cons_succ])
                (refine schT_take ?_ rfl ?_ ?_; rotate_left; (focus (intro u hu; have c0 := hu ▸ HD0.out; clear hu; go_simp <;> rfl)); simp only [Act.put, List.setIfInBounds_toArray, List.set_cons_zero, List.set_cons_succ])
                iterate 3 (refine schT_take ?_ rfl ?_ ?_; rotate_left; (focus (intro u hu; go_simp <;> rfl)); simp only [Act.put, List.setIfInBounds_toArray, List.set_cons_zero, List.set_cons_succ])
                (refine schT_take ?_ rfl ?_ ?_; rotate_left; (focus (intro u hu; have c0 := hu ▸ HD1.out; clear hu; go_simp <;> rfl)); simp only [Act.put, List.setIfInBounds_toArray, List.set_cons_zero, List.set_cons_succ])
                iterate 2 (refine schT_take ?_ rfl ?_ ?_; rotate_left; (focus (intro u hu; go_simp <;> rfl)); simp only [Act.put, List.setIfInBounds_toArray, List.set_cons_zero, List.set_cons_succ])
                (refine schT_take ?_ rfl ?_ ?_; rotate_left; (focus (intro u hu; have c0 := hu ▸ HCN.out; clear hu; go_simp <;> rfl)); simp only [Act.put, List.setIfInBounds_toArray, List.set_cons_zero, List.set_cons_succ])
                (refine schT_take ?_ rfl ?_ ?_; rotate_left; (focus (intro u hu; have hw := HWR.out; clear hu; go_simp <;> rfl)); simp only [Act.put, List.setIfInBounds_toArray, List.set_cons_zero, List.set_cons_succ])
                (refine schT_take ?_ rfl ?_ ?_; rotate_left; (focus (intro u hu; have hr := HR1.out; clear hu; go_simp <;> rfl)); simp only [Act.put, List.setIfInBounds_toArray, List.set_cons_zero, List.set_cons_succ])
                iterate 3 (refine schT_take ?_ rfl ?_ ?_; rotate_left; (focus (intro u hu; go_simp <;> rfl)); simp only [Act.put, List.setIfInBounds_toArray, List.set_cons_zero, List.set_cons_succ])
                (refine schT_take ?_ rfl ?_ ?_; rotate_left; (focus (intro u hu; have c0 := hu ▸ HD2.out; clear hu; go_simp <;> rfl)); simp only [Act.put, List.setIfInBounds_toArray, List.set_cons_zero, List.set_cons_succ])
                iterate 2 (refine schT_take ?_ rfl ?_ ?_; rotate_left; (focus (intro u hu; go_simp <;> rfl)); simp only [Act.put, List.setIfInBounds_toArray, List.set_cons_zero, List.set_cons_succ])
                (refine schT_take ?_ rfl ?_ ?_; rotate_left; (focus (intro u hu; have c0 := hu ▸ HCV.out; clear hu; go_simp <;> rfl)); simp only [Act.put, List.setIfInBounds_toArray, List.set_cons_zero, List.set_cons_succ])
                (refine schT_take ?_ rfl ?_ ?_; rotate_left; (focus (intro u hu; go_simp <;> rfl)); simp only [Act.put, List.setIfInBounds_toArray, List.set_cons_zero, List.set_cons_succ])
                (refine schT_take ?_ rfl ?_ ?_; rotate_left; (focus (intro u hu; have hr := HR2.out; clear hu; go_simp <;> rfl)); simp only [Act.put, List.setIfInBounds_toArray, List.set_cons_zero, List.set_cons_succ])
                refine schT_nil ?_
                refine schT_last rfl rfl ?_
                refine wp_copyB (.tmp 56) (.tmp 65) rfl ib (512 * x) nb ic (nb - 512 * x) (ic - 512 * x) _ (l.take 512) _ rfl rfl HWD.out HSR.out (by have := HXE.out; have := HLT2.out; omega) (by have := HXE.out; omega) ?_
                intro w3 o3 t3 s3
                go_wp2_with fail
                go_roundw
                case rel => exact ⟨k + 1, by omega, by go_num, by rw [HST.out]; exact o3, HTD.out.trans t3 (fun _ _ h => h)⟩
                case measure => simp [intOf]; omega
            · have h1' : ((k : Int) == torn) = false := by simp [e1]
              clear ht e1
              obtain ⟨A3, n3, c3, r3, b3, _, _, _⟩ := HBY.out.uptorun 37 elemByte sizeByte 512 (by omega) .i64
              have HR2 : Hid (∀ W, (Instr.slice 37 (.slice Av 512 cv) none (some (.int .i64 512)) none).run Try.prog W = .ok (.slice A3 n3 c3) W) := r3
              have HSR := Lib.hid (show Byt wr.drew _ _ from b3)
              have HLT2 : Hid ((l.take 512).length ≤ 512) := by rw [Hid, List.length_take]; omega
              rw [HFK.out] at HST
              clear r3 b3 HFK
              go_wp2_with fail
              refine wp_region_T (R := fun x y => x = y) (by kernel_rfl) (fun _ => rfl) (fun h k => h.trans k) (by kernel_rfl) 22 rfl (by kernel_rfl) (by kernel_rfl) (fun d v c a w h => by cases d <;> exact h)
                [(0, false), (1, false), (2, false), (3, false), (4, false), (5, false), (6, false), (7, false), (8, false), (9, false), (10, false), (11, false), (12, false), (13, false), (14, false), (15, false), (16, false), (17, false), (18, false), (19, false), (20, false), (21, false)] rfl (by kernel_rfl) ?_
              simp only [sel, List.getElem?_toArray, List.getElem?_cons_succ, List.getElem?_cons_zero]
              generalize wr.drew = wd at *
              iterate 3 (refine schT_take ?_ rfl ?_ ?_; rotate_left; (focus (intro u hu; go_simp <;> rfl)); simp only [Act.put, List.setIfInBounds_toArray, List.set_cons_zero, List.set_cons_succ])
              (refine schT_take ?_ rfl ?_ ?_; rotate_left; (focus (intro u hu; have c0 := hu ▸ HD0.out; clear hu; go_simp <;> rfl)); simp only [Act.put, List.setIfInBounds_toArray, List.set_cons_zero, List.set_cons_succ])
              iterate 3 (refine schT_take ?_ rfl ?_ ?_; rotate_left; (focus (intro u hu; go_simp <;> rfl)); simp only [Act.put, List.setIfInBounds_toArray, List.set_cons_zero, List.set_cons_succ])
              (refine schT_take ?_ rfl ?_ ?_; rotate_left; (focus (intro u hu; have c0 := hu ▸ HD1.out; clear hu; go_simp <;> rfl)); simp only [Act.put, List.setIfInBounds_toArray, List.set_cons_zero, List.set_cons_succ])
              iterate 2 (refine schT_take ?_ rfl ?_ ?_; rotate_left; (focus (intro u hu; go_simp <;> rfl)); simp only [Act.put, List.setIfInBounds_toArray, List.set_cons_zero, List.set_cons_succ])
              (refine schT_take ?_ rfl ?_ ?_; rotate_left; (focus (intro u hu; have c0 := hu ▸ HCN.out; clear hu; go_simp <;> rfl)); simp only [Act.put, List.setIfInBounds_toArray, List.set_cons_zero, List.set_cons_succ])
              (refine schT_take ?_ rfl ?_ ?_; rotate_left; (focus (intro u hu; have hw := HWR.out; clear hu; go_simp <;> rfl)); simp only [Act.put, List.setIfInBounds_toArray, List.set_cons_zero, List.set_cons_succ])
              (refine schT_take ?_ rfl ?_ ?_; rotate_left; (focus (intro u hu; have hr := HR1.out; clear hu; go_simp <;> rfl)); simp only [Act.put, List.setIfInBounds_toArray, List.set_cons_zero, List.set_cons_succ])
              iterate 3 (refine schT_take ?_ rfl ?_ ?_; rotate_left; (focus (intro u hu; go_simp <;> rfl)); simp only [Act.put, List.setIfInBounds_toArray, List.set_cons_zero, List.set_cons_succ])
              (refine schT_take ?_ rfl ?_ ?_; rotate_left; (focus (intro u hu; have c0 := hu ▸ HD2.out; clear hu; go_simp <;> rfl)); simp only [Act.put, List.setIfInBounds_toArray, List.set_cons_zero, List.set_cons_succ])
              iterate 2 (refine schT_take ?_ rfl ?_ ?_; rotate_left; (focus (intro u hu; go_simp <;> rfl)); simp only [Act.put, List.setIfInBounds_toArray, List.set_cons_zero, List.set_cons_succ])
              (refine schT_take ?_ rfl ?_ ?_; rotate_left; (focus (intro u hu; have c0 := hu ▸ HCV.out; clear hu; go_simp <;> rfl)); simp only [Act.put, List.setIfInBounds_toArray, List.set_cons_zero, List.set_cons_succ])
              (refine schT_take ?_ rfl ?_ ?_; rotate_left; (focus (intro u hu; go_simp <;> rfl)); simp only [Act.put, List.setIfInBounds_toArray, List.set_cons_zero, List.set_cons_succ])
              (refine schT_take ?_ rfl ?_ ?_; rotate_left; (focus (intro u hu; have hr := HR2.out; clear hu; go_simp <;> rfl)); simp only [Act.put, List.setIfInBounds_toArray, List.set_cons_zero, List.set_cons_succ])
              refine schT_nil ?_
              refine schT_last rfl rfl ?_
              refine wp_copyB (.tmp 56) (.tmp 65) rfl ib (512 * x) nb ic (nb - 512 * x) (ic - 512 * x) _ (l.take 512) _ rfl rfl HWD.out HSR.out (by have := HXE.out; have := HLT2.out; omega) (by have := HXE.out; omega) ?_
              intro w3 o3 t3 s3
              go_wp2_with fail
              go_roundw
              case rel => exact ⟨k + 1, by omega, by go_num, by rw [HST.out]; exact o3, HTD.out.trans t3 (fun _ _ h => h)⟩
              case measure => simp [intOf]; omega
      · have hkm' : ¬ (k : Int) < (mk : Int) := by have := Nk.out; omega
        have HKG : Hid (keep.getD k false = false) := by rw [Hid]; simp [hkl]
        by_cases ht : (k : Int) = torn ∧ 0 ≤ bytes ∧ bytes ≤ 512
        · obtain ⟨h1, h2, h3⟩ := ht
          obtain ⟨nbt, rfl⟩ := Int.eq_ofNat_of_zero_le h2
          have h1' : ((k : Int) == torn) = true := by simp [h1]
          have HFK : Hid (keptN keep torn (nbt : Int) k = nbt) := by rw [Hid]; unfold keptN; rw [if_pos ⟨h1, h2, h3⟩]; rfl
          clear h1
          obtain ⟨A3, n3, c3, r3, b3, _, _, _⟩ := HBY.out.uptorun 37 elemByte sizeByte nbt (by omega) .i64
          have HR2 : Hid (∀ W, (Instr.slice 37 (.slice Av 512 cv) none (some (.int .i64 (nbt : Int))) none).run Try.prog W = .ok (.slice A3 n3 c3) W) := r3
          have HSR := Lib.hid (show Byt wr.drew _ _ from b3)
          have HLT2 : Hid ((l.take nbt).length ≤ 512) := by rw [Hid, List.length_take]; omega
          rw [HFK.out] at HST
          clear r3 b3 HFK
          go_wp2_with fail
          refine wp_region_T (R := fun x y => x = y) (by kernel_rfl) (fun _ => rfl) (fun h k => h.trans k) (by kernel_rfl) 22 rfl (by kernel_rfl) (by kernel_rfl) (fun d v c a w h => by cases d <;> exact h)
            [(0, false), (1, false), (2, false), (3, false), (4, false), (5, false), (6, false), (7, false), (8, false), (9, false), (10, false), (11, false), (12, false), (13, false), (14, false), (15, false), (16, false), (17, false), (18, false), (19, false), (20, false), (21, false)] rfl (by kernel_rfl) ?_
          simp only [sel, List.getElem?_toArray, List.getElem?_cons_succ, List.getElem?_cons_zero]
          generalize wr.drew = wd at *
          iterate 3 (refine schT_take ?_ rfl ?_ ?_; rotate_left; (focus (intro u hu; go_simp <;> rfl)); simp only [Act.put, List.setIfInBounds_toArray, List.set_cons_zero, List.set_cons_succ])
          (refine schT_take ?_ rfl ?_ ?_; rotate_left; (focus (intro u hu; have c0 := hu ▸ HD0.out; clear hu; go_simp <;> rfl)); simp only [Act.put, List.setIfInBounds_toArray, List.set_cons_zero, List.set_cons_succ])
          iterate 3 (refine schT_take ?_ rfl ?_ ?_; rotate_left; (focus (intro u hu; go_simp <;> rfl)); simp only [Act.put, List.setIfInBounds_toArray, List.set_cons_zero, List.set_cons_succ])
          (refine schT_take ?_ rfl ?_ ?_; rotate_left; (focus (intro u hu; have c0 := hu ▸ HD1.out; clear hu; go_simp <;> rfl)); simp only [Act.put, List.setIfInBounds_toArray, List.set_cons_zero, List.set_cons_succ])
          iterate 2 (refine schT_take ?_ rfl ?_ ?_; rotate_left; (focus (intro u hu; go_simp <;> rfl)); simp only [Act.put, List.setIfInBounds_toArray, List.set_cons_zero, List.set_cons_succ])
          (refine schT_take ?_ rfl ?_ ?_; rotate_left; (focus (intro u hu; have c0 := hu ▸ HCN.out; clear hu; go_simp <;> rfl)); simp only [Act.put, List.setIfInBounds_toArray, List.set_cons_zero, List.set_cons_succ])
          (refine schT_take ?_ rfl ?_ ?_; rotate_left; (focus (intro u hu; have hw := HWR.out; clear hu; go_simp <;> rfl)); simp only [Act.put, List.setIfInBounds_toArray, List.set_cons_zero, List.set_cons_succ])
          (refine schT_take ?_ rfl ?_ ?_; rotate_left; (focus (intro u hu; have hr := HR1.out; clear hu; go_simp <;> rfl)); simp only [Act.put, List.setIfInBounds_toArray, List.set_cons_zero, List.set_cons_succ])
          iterate 3 (refine schT_take ?_ rfl ?_ ?_; rotate_left; (focus (intro u hu; go_simp <;> rfl)); simp only [Act.put, List.setIfInBounds_toArray, List.set_cons_zero, List.set_cons_succ])
          (refine schT_take ?_ rfl ?_ ?_; rotate_left; (focus (intro u hu; have c0 := hu ▸ HD2.out; clear hu; go_simp <;> rfl)); simp only [Act.put, List.setIfInBounds_toArray, List.set_cons_zero, List.set_cons_succ])
          iterate 2 (refine schT_take ?_ rfl ?_ ?_; rotate_left; (focus (intro u hu; go_simp <;> rfl)); simp only [Act.put, List.setIfInBounds_toArray, List.set_cons_zero, List.set_cons_succ])
          (refine schT_take ?_ rfl ?_ ?_; rotate_left; (focus (intro u hu; have c0 := hu ▸ HCV.out; clear hu; go_simp <;> rfl)); simp only [Act.put, List.setIfInBounds_toArray, List.set_cons_zero, List.set_cons_succ])
          (refine schT_take ?_ rfl ?_ ?_; rotate_left; (focus (intro u hu; go_simp <;> rfl)); simp only [Act.put, List.setIfInBounds_toArray, List.set_cons_zero, List.set_cons_succ])
          (refine schT_take ?_ rfl ?_ ?_; rotate_left; (focus (intro u hu; have hr := HR2.out; clear hu; go_simp <;> rfl)); simp only [Act.put, List.setIfInBounds_toArray, List.set_cons_zero, List.set_cons_succ])
          refine schT_nil ?_
          refine schT_last rfl rfl ?_
          refine wp_copyB (.tmp 56) (.tmp 65) rfl ib (512 * x) nb ic (nb - 512 * x) (ic - 512 * x) _ (l.take nbt) _ rfl rfl HWD.out HSR.out (by have := HXE.out; have := HLT2.out; omega) (by have := HXE.out; omega) ?_
          intro w3 o3 t3 s3
          go_wp2_with fail
          go_roundw
          case rel => exact ⟨k + 1, by omega, by go_num, by rw [HST.out]; exact o3, HTD.out.trans t3 (fun _ _ h => h)⟩
          case measure => simp [intOf]; omega
        · have HFK : Hid (keptN keep torn bytes k = 0) := by rw [Hid]; unfold keptN; rw [if_neg ht, HKG.out]; rfl
          by_cases e1 : (k : Int) = torn
          · have h1' : ((k : Int) == torn) = true := by simp [e1]
            by_cases e2 : 0 ≤ bytes
            · have e3 : ¬ bytes ≤ 512 := fun h => ht ⟨e1, e2, h⟩
              clear ht e1
              obtain ⟨A3, n3, c3, r3, b3, _, _, _⟩ := HBY.out.uptorun 37 elemByte sizeByte 0 (by omega) .i64
              have HR2 : Hid (∀ W, (Instr.slice 37 (.slice Av 512 cv) none (some (.int .i64 0)) none).run Try.prog W = .ok (.slice A3 n3 c3) W) := r3
              have HSR := Lib.hid (show Byt wr.drew _ _ from b3)
              have HLT2 : Hid ((l.take 0).length ≤ 512) := by rw [Hid, List.length_take]; omega
              rw [HFK.out] at HST
              clear r3 b3 HFK
              go_wp2_with fail
              refine wp_region_T (R := fun x y => x = y) (by kernel_rfl) (fun _ => rfl) (fun h k => h.trans k) (by kernel_rfl) 22 rfl (by kernel_rfl) (by kernel_rfl) (fun d v c a w h => by cases d <;> exact h)
                [(0, false), (1, false), (2, false), (3, false), (4, false), (5, false), (6, false), (7, false), (8, false), (9, false), (10, false), (11, false), (12, false), (13, false), (14, false), (15, false), (16, false), (17, false), (18, false), (19, false), (20, false), (21, false)] rfl (by kernel_rfl) ?_
              simp only [sel, List.getElem?_toArray, List.getElem?_cons_succ, List.getElem?_cons_zero]
              generalize wr.drew = wd at *
              iterate 3 (refine schT_take ?_ rfl ?_ ?_; rotate_left; (focus (intro u hu; go_simp <;> rfl)); simp only [Act.put, List.setIfInBounds_toArray, List.set_cons_zero, List.set_cons_succ])
              (refine schT_take ?_ rfl ?_ ?_; rotate_left; (focus (intro u hu; have c0 := hu ▸ HD0.out; clear hu; go_simp <;> rfl)); simp only [Act.put, List.setIfInBounds_toArray, List.set_cons_zero, List.set_cons_succ])
              iterate 3 (refine schT_take ?_ rfl ?_ ?_; rotate_left; (focus (intro u hu; go_simp <;> rfl)); simp only [Act.put, List.setIfInBounds_toArray, List.set_cons_zero, List.set_cons_succ])
              (refine schT_take ?_ rfl ?_ ?_; rotate_left; (focus (intro u hu; have c0 := hu ▸ HD1.out; clear hu; go_simp <;> rfl)); simp only [Act.put, List.setIfInBounds_toArray, List.set_cons_zero, List.set_cons_succ])
              iterate 2 (refine schT_take ?_ rfl ?_ ?_; rotate_left; (focus (intro u hu; go_simp <;> rfl)); simp only [Act.put, List.setIfInBounds_toArray, List.set_cons_zero, List.set_cons_succ])
              (refine schT_take ?_ rfl ?_ ?_; rotate_left; (focus (intro u hu; have c0 := hu ▸ HCN.out; clear hu; go_simp <;> rfl)); simp only [Act.put, List.setIfInBounds_toArray, List.set_cons_zero, List.set_cons_succ])
              (refine schT_take ?_ rfl ?_ ?_; rotate_left; (focus (intro u hu; have hw := HWR.out; clear hu; go_simp <;> rfl)); simp only [Act.put, List.setIfInBounds_toArray, List.set_cons_zero, List.set_cons_succ])
              (refine schT_take ?_ rfl ?_ ?_; rotate_left; (focus (intro u hu; have hr := HR1.out; clear hu; go_simp <;> rfl)); simp only [Act.put, List.setIfInBounds_toArray, List.set_cons_zero, List.set_cons_succ])
              iterate 3 (refine schT_take ?_ rfl ?_ ?_; rotate_left; (focus (intro u hu; go_simp <;> rfl)); simp only [Act.put, List.setIfInBounds_toArray, List.set_cons_zero, List.set_cons_succ])
              (refine schT_take ?_ rfl ?_ ?_; rotate_left; (focus (intro u hu; have c0 := hu ▸ HD2.out; clear hu; go_simp <;> rfl)); simp only [Act.put, List.setIfInBounds_toArray, List.set_cons_zero, List.set_cons_succ])
              iterate 2 (refine schT_take ?_ rfl ?_ ?_; rotate_left; (focus (intro u hu; go_simp <;> rfl)); simp only [Act.put, List.setIfInBounds_toArray, List.set_cons_zero, List.set_cons_succ])
              (refine schT_take ?_ rfl ?_ ?_; rotate_left; (focus (intro u hu; have c0 := hu ▸ HCV.out; clear hu; go_simp <;> rfl)); simp only [Act.put, List.setIfInBounds_toArray, List.set_cons_zero, List.set_cons_succ])
              (refine schT_take ?_ rfl ?_ ?_; rotate_left; (focus (intro u hu; go_simp <;> rfl)); simp only [Act.put, List.setIfInBounds_toArray, List.set_cons_zero, List.set_cons_succ])
              (refine schT_take ?_ rfl ?_ ?_; rotate_left; (focus (intro u hu; have hr := HR2.out; clear hu; go_simp <;> rfl)); simp only [Act.put, List.setIfInBounds_toArray, List.set_cons_zero, List.set_cons_succ])
              refine schT_nil ?_
              refine schT_last rfl rfl ?_
              refine wp_copyB (.tmp 56) (.tmp 65) rfl ib (512 * x) nb ic (nb - 512 * x) (ic - 512 * x) _ (l.take 0) _ rfl rfl HWD.out HSR.out (by have := HXE.out; have := HLT2.out; omega) (by have := HXE.out; omega) ?_
              intro w3 o3 t3 s3
              go_wp2_with fail
              go_roundw
              case rel => exact ⟨k + 1, by omega, by go_num, by rw [HST.out]; exact o3, HTD.out.trans t3 (fun _ _ h => h)⟩
              case measure => simp [intOf]; omega
            · clear ht e1
              obtain ⟨A3, n3, c3, r3, b3, _, _, _⟩ := HBY.out.uptorun 37 elemByte sizeByte 0 (by omega) .i64
              have HR2 : Hid (∀ W, (Instr.slice 37 (.slice Av 512 cv) none (some (.int .i64 0)) none).run Try.prog W = .ok (.slice A3 n3 c3) W) := r3
              have HSR := Lib.hid (show Byt wr.drew _ _ from b3)
              have HLT2 : Hid ((l.take 0).length ≤ 512) := by rw [Hid, List.length_take]; omega
              rw [HFK.out] at HST
              clear r3 b3 HFK
              go_wp2_with fail
              refine wp_region_T (R := fun x y => x = y) (by kernel_rfl) (fun _ => rfl) (fun h k => h.trans k) (by kernel_rfl) 22 rfl (by kernel_rfl) (by kernel_rfl) (fun d v c a w h => by cases d <;> exact h)
                [(0, false), (1, false), (2, false), (3, false), (4, false), (5, false), (6, false), (7, false), (8, false), (9, false), (10, false), (11, false), (12, false), (13, false), (14, false), (15, false), (16, false), (17, false), (18, false), (19, false), (20, false), (21, false)] rfl (by kernel_rfl) ?_
              simp only [sel, List.getElem?_toArray, List.getElem?_cons_succ, List.getElem?_cons_zero]
              generalize wr.drew = wd at *
              iterate 3 (refine schT_take ?_ rfl ?_ ?_; rotate_left; (focus (intro u hu; go_simp <;> rfl)); simp only [Act.put, List.setIfInBounds_toArray, List.set_cons_zero, List.set_cons_succ])
              (refine schT_take ?_ rfl ?_ ?_; rotate_left; (focus (intro u hu; have c0 := hu ▸ HD0.out; clear hu; go_simp <;> rfl)); simp only [Act.put, List.setIfInBounds_toArray, List.set_cons_zero, List.set_cons_succ])
              iterate 3 (refine schT_take ?_ rfl ?_ ?_; rotate_left; (focus (intro u hu; go_simp <;> rfl)); simp only [Act.put, List.setIfInBounds_toArray, List.set_cons_zero, List.set_cons_succ])
              (refine schT_take ?_ rfl ?_ ?_; rotate_left; (focus (intro u hu; have c0 := hu ▸ HD1.out; clear hu; go_simp <;> rfl)); simp only [Act.put, List.setIfInBounds_toArray, List.set_cons_zero, List.set_cons_succ])
              iterate 2 (refine schT_take ?_ rfl ?_ ?_; rotate_left; (focus (intro u hu; go_simp <;> rfl)); simp only [Act.put, List.setIfInBounds_toArray, List.set_cons_zero, List.set_cons_succ])
              (refine schT_take ?_ rfl ?_ ?_; rotate_left; (focus (intro u hu; have c0 := hu ▸ HCN.out; clear hu; go_simp <;> rfl)); simp only [Act.put, List.setIfInBounds_toArray, List.set_cons_zero, List.set_cons_succ])
              (refine schT_take ?_ rfl ?_ ?_; rotate_left; (focus (intro u hu; have hw := HWR.out; clear hu; go_simp <;> rfl)); simp only [Act.put, List.setIfInBounds_toArray, List.set_cons_zero, List.set_cons_succ])
              (refine schT_take ?_ rfl ?_ ?_; rotate_left; (focus (intro u hu; have hr := HR1.out; clear hu; go_simp <;> rfl)); simp only [Act.put, List.setIfInBounds_toArray, List.set_cons_zero, List.set_cons_succ])
              iterate 3 (refine schT_take ?_ rfl ?_ ?_; rotate_left; (focus (intro u hu; go_simp <;> rfl)); simp only [Act.put, List.setIfInBounds_toArray, List.set_cons_zero, List.set_cons_succ])
              (refine schT_take ?_ rfl ?_ ?_; rotate_left; (focus (intro u hu; have c0 := hu ▸ HD2.out; clear hu; go_simp <;> rfl)); simp only [Act.put, List.setIfInBounds_toArray, List.set_cons_zero, List.set_cons_succ])
              iterate 2 (refine schT_take ?_ rfl ?_ ?_; rotate_left; (focus (intro u hu; go_simp <;> rfl)); simp only [Act.put, List.setIfInBounds_toArray, List.set_cons_zero, List.set_cons_succ])
              (refine schT_take ?_ rfl ?_ ?_; rotate_left; (focus (intro u hu; have c0 := hu ▸ HCV.out; clear hu; go_simp <;> rfl)); simp only [Act.put, List.setIfInBounds_toArray, List.set_cons_zero, List.set_cons_succ])
              (refine schT_take ?_ rfl ?_ ?_; rotate_left; (focus (intro u hu; go_simp <;> rfl)); simp only [Act.put, List.setIfInBounds_toArray, List.set_cons_zero, List.set_cons_succ])
              (refine schT_take ?_ rfl ?_ ?_; rotate_left; (focus (intro u hu; have hr := HR2.out; clear hu; go_simp <;> rfl)); simp only [Act.put, List.setIfInBounds_toArray, List.set_cons_zero, List.set_cons_succ])
              refine schT_nil ?_
              refine schT_last rfl rfl ?_
              refine wp_copyB (.tmp 56) (.tmp 65) rfl ib (512 * x) nb ic (nb - 512 * x) (ic - 512 * x) _ (l.take 0) _ rfl rfl HWD.out HSR.out (by have := HXE.out; have := HLT2.out; omega) (by have := HXE.out; omega) ?_
              intro w3 o3 t3 s3
              go_wp2_with fail
              go_roundw
              case rel => exact ⟨k + 1, by omega, by go_num, by rw [HST.out]; exact o3, HTD.out.trans t3 (fun _ _ h => h)⟩
              case measure => simp [intOf]; omega
          · have h1' : ((k : Int) == torn) = false := by simp [e1]
            clear ht e1
            obtain ⟨A3, n3, c3, r3, b3, _, _, _⟩ := HBY.out.uptorun 37 elemByte sizeByte 0 (by omega) .i64
            have HR2 : Hid (∀ W, (Instr.slice 37 (.slice Av 512 cv) none (some (.int .i64 0)) none).run Try.prog W = .ok (.slice A3 n3 c3) W) := r3
            have HSR := Lib.hid (show Byt wr.drew _ _ from b3)
            have HLT2 : Hid ((l.take 0).length ≤ 512) := by rw [Hid, List.length_take]; omega
            rw [HFK.out] at HST
            clear r3 b3 HFK
            go_wp2_with fail
            refine wp_region_T (R := fun x y => x = y) (by kernel_rfl) (fun _ => rfl) (fun h k => h.trans k) (by kernel_rfl) 22 rfl (by kernel_rfl) (by kernel_rfl) (fun d v c a w h => by cases d <;> exact h)
              [(0, false), (1, false), (2, false), (3, false), (4, false), (5, false), (6, false), (7, false), (8, false), (9, false), (10, false), (11, false), (12, false), (13, false), (14, false), (15, false), (16, false), (17, false), (18, false), (19, false), (20, false), (21, false)] rfl (by kernel_rfl) ?_
            simp only [sel, List.getElem?_toArray, List.getElem?_cons_succ, List.getElem?_cons_zero]
            generalize wr.drew = wd at *
            iterate 3 (refine schT_take ?_ rfl ?_ ?_; rotate_left; (focus (intro u hu; go_simp <;> rfl)); simp only [Act.put, List.setIfInBounds_toArray, List.set_cons_zero, List.set_cons_succ])
            (refine schT_take ?_ rfl ?_ ?_; rotate_left; (focus (intro u hu; have c0 := hu ▸ HD0.out; clear hu; go_simp <;> rfl)); simp only [Act.put, List.setIfInBounds_toArray, List.set_cons_zero, List.set_cons_succ])
            iterate 3 (refine schT_take ?_ rfl ?_ ?_; rotate_left; (focus (intro u hu; go_simp <;> rfl)); simp only [Act.put, List.setIfInBounds_toArray, List.set_cons_zero, List.set_cons_succ])
            (refine schT_take ?_ rfl ?_ ?_; rotate_left; (focus (intro u hu; have c0 := hu ▸ HD1.out; clear hu; go_simp <;> rfl)); simp only [Act.put, List.setIfInBounds_toArray, List.set_cons_zero, List.set_cons_succ])
            iterate 2 (refine schT_take ?_ rfl ?_ ?_; rotate_left; (focus (intro u hu; go_simp <;> rfl)); simp only [Act.put, List.setIfInBounds_toArray, List.set_cons_zero, List.set_cons_succ])
            (refine schT_take ?_ rfl ?_ ?_; rotate_left; (focus (intro u hu; have c0 := hu ▸ HCN.out; clear hu; go_simp <;> rfl)); simp only [Act.put, List.setIfInBounds_toArray, List.set_cons_zero, List.set_cons_succ])
            (refine schT_take ?_ rfl ?_ ?_; rotate_left; (focus (intro u hu; have hw := HWR.out; clear hu; go_simp <;> rfl)); simp only [Act.put, List.setIfInBounds_toArray, List.set_cons_zero, List.set_cons_succ])
            (refine schT_take ?_ rfl ?_ ?_; rotate_left; (focus (intro u hu; have hr := HR1.out; clear hu; go_simp <;> rfl)); simp only [Act.put, List.setIfInBounds_toArray, List.set_cons_zero, List.set_cons_succ])
            iterate 3 (refine schT_take ?_ rfl ?_ ?_; rotate_left; (focus (intro u hu; go_simp <;> rfl)); simp only [Act.put, List.setIfInBounds_toArray, List.set_cons_zero, List.set_cons_succ])
            (refine schT_take ?_ rfl ?_ ?_; rotate_left; (focus (intro u hu; have c0 := hu ▸ HD2.out; clear hu; go_simp <;> rfl)); simp only [Act.put, List.setIfInBounds_toArray, List.set_cons_zero, List.set_cons_succ])
            iterate 2 (refine schT_take ?_ rfl ?_ ?_; rotate_left; (focus (intro u hu; go_simp <;> rfl)); simp only [Act.put, List.setIfInBounds_toArray, List.set_cons_zero, List.set_cons_succ])
            (refine schT_take ?_ rfl ?_ ?_; rotate_left; (focus (intro u hu; have c0 := hu ▸ HCV.out; clear hu; go_simp <;> rfl)); simp only [Act.put, List.setIfInBounds_toArray, List.set_cons_zero, List.set_cons_succ])
            (refine schT_take ?_ rfl ?_ ?_; rotate_left; (focus (intro u hu; go_simp <;> rfl)); simp only [Act.put, List.setIfInBounds_toArray, List.set_cons_zero, List.set_cons_succ])
            (refine schT_take ?_ rfl ?_ ?_; rotate_left; (focus (intro u hu; have hr := HR2.out; clear hu; go_simp <;> rfl)); simp only [Act.put, List.setIfInBounds_toArray, List.set_cons_zero, List.set_cons_succ])
            refine schT_nil ?_
            refine schT_last rfl rfl ?_
            refine wp_copyB (.tmp 56) (.tmp 65) rfl ib (512 * x) nb ic (nb - 512 * x) (ic - 512 * x) _ (l.take 0) _ rfl rfl HWD.out HSR.out (by have := HXE.out; have := HLT2.out; omega) (by have := HXE.out; omega) ?_
            intro w3 o3 t3 s3
            go_wp2_with fail
            go_roundw
            case rel => exact ⟨k + 1, by omega, by go_num, by rw [HST.out]; exact o3, HTD.out.trans t3 (fun _ _ h => h)⟩
            case measure => simp [intOf]; omega
    · obtain rfl : k = s.C.length := by omega
      have hkn : ¬ ((s.C.length : Nat) : Int) < (n1 : Int) := by have := NN.out; omega
      have hobj := (HT.out.block g (HFT.out.lt g HFT.out.g) (fun e => HA.out.ib_g e.symm)).trans HA.out.obj
      obtain ⟨d0, d1, d2, d3, f1, f2, f3⟩ := robj_cells hobj
      have HX := Lib.hid ((rsettled HA.out HFT.out HO.out HW.out HT.out).setF none)
      have hgs : ∀ k, S k → k < w1.heap.size := HFT.out.lt
      clear hobj
      go_wp2_with fail
      go_ret
      have hsz : (((wr.setCell ⟨g, 1, none⟩ (.slice none 0 0)).setCell ⟨g, 2, none⟩ (.slice none 0 0)).setCell ⟨g, 3, none⟩ (.int .i64 (-1))).heap.size = wr.heap.size := by rw [setCell_size, setCell_size, setCell_size]
      have htr : Trn S w (((wr.setCell ⟨g, 1, none⟩ (.slice none 0 0)).setCell ⟨g, 2, none⟩ (.slice none 0 0)).setCell ⟨g, 3, none⟩ (.int .i64 (-1))) := ((((Trn.of_below HB1.out (S := S)).trans (HT.out.wide (T := S) (fun _ e => e ▸ HFT.out.ib)) (fun _ _ h => h)).setCell _ (fun _ => HFT.out.g)).setCell _ (fun _ => HFT.out.g)).setCell _ (fun _ => HFT.out.g)
      refine ⟨rfl, Ref.more ⟨ib, ic, _, _, _, HX.out, ⟨HFT.out.g, HFT.out.ib, fun k hk => (by cases hk), fun k hk => (by cases hk), fun v hv => (by cases hv), fun k hk => by rw [hsz]; exact Nat.lt_of_lt_of_le (hgs k hk) HT.out.size⟩, HO.out.crash _ _ _⟩ htr.size HLT.out, htr⟩
end Go.Proofs.Ytmdppdpoogbeaaa
