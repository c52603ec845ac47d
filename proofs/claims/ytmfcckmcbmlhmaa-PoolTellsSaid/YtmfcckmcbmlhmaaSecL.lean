/-
  Package sector: Write, where it is done or fails by a fault. Conditions: none but that the disk lies there, and what is handed in apart from it.
-/
import Derived.Test.YtmfcckmcbmlhmaaSecK
namespace Go.Proofs.Ytmfcckmcbmlhmaa
open Go.RowKit Go.Maps
set_option maxRecDepth 100000

theorem arrayRun (A : Option Addr) (c : Nat) : ∀ W, (Instr.arrayAt 80 (.slice A 512 c)).run Try.prog W = .ok (.pointer A) W := fun W => run_arrayAt W 80 5 512 A 512 c rowUnder (Nat.le_refl _)
theorem store_run {w : World} {g ib ic m : Nat} {s : St} {ks : List Nat} {vo vf : Value} {D : DataW Unit} (h : PreW w g s ks ib ic m vo vf D) (ok : OkSt s) {n : Nat} {l : List UInt8} (hn : n ≤ 9223372036854775807) (hl : l.length = 512) :
    ∃ w', (Instr.mapUpdate 67 (.map (some m)) (.int .i64 (n : Int)) (.agg (byc l).toArray)).run Try.prog w = .ok () w' ∧ w'.ownsMap Try.prog 3 rowE m (s.C.length + 1) (D.put (keyL n) (.lit (.string l))) ∧ w.grownBy w' (some m) :=
  h.mp.update intKeyed mapUnder (by have := ok.cnt; simp only [maxLen]; omega) (keyOf_int_mk Try.underlying3 (keyL_wf hn)) (rowE_mk l hl)

theorem PreW.drew {w : World} {g ib ic m : Nat} {s : St} {ks : List Nat} {vo vf : Value} {D : DataW Unit} (h : PreW w g s ks ib ic m vo vf D) : PreW w.drew g s ks ib ic m vo vf D := ⟨h.obj, h.img, h.mp, h.fits, h.ord, h.flt, h.apart⟩
theorem Foot.drew {S : Nat → Prop} {w : World} {g ib m : Nat} {vo vf : Value} (F : Foot S w g ib m vo vf) : Foot S w.drew g ib m vo vf := ⟨F.g, F.ib, F.m, F.o, F.f, F.lt⟩
theorem Trn.drew {S : Nat → Prop} {a b : World} (h : Trn S a b) : Trn S a b.drew := ⟨h.os, h.tape, h.output, h.size, h.block⟩

theorem extend_all {w w2 w3 : World} {S : Nat → Prop} {g ib ic m n : Nat} {s : St} {ks : List Nat} {vo vf v3 : Value} {D : DataW Unit} (h : PreW w g s ks ib ic m vo vf D) (F : Foot S w g ib m vo vf) (hb : Below w.heap.size w w2)
    (hg : (w2.alloc (.cells #[.int .i64 (n : Int)] 3)).grownBy w3 vo.ownBlock) (ho : w3.ownsRow 0 3 1 v3 (ks.length + 1) (inz ks ++ [.int .i64 (n : Int)])) (hw : v3.ownBlock = vo.ownBlock ∨ v3.ownBlock = some (w2.alloc (.cells #[.int .i64 (n : Int)] 3)).heap.size) :
    (PreW (w3.setCell ⟨g, 2, none⟩ v3) g s (ks ++ [n]) ib ic m v3 vf D ∧ Foot (more S (w2.alloc (.cells #[.int .i64 (n : Int)] 3)) w3) (w3.setCell ⟨g, 2, none⟩ v3) g ib m v3 vf ∧ Trn S (w2.alloc (.cells #[.int .i64 (n : Int)] 3)) (w3.setCell ⟨g, 2, none⟩ v3)) ∧ w3.cell? ⟨g, 2, none⟩ = some vo ∧ w3.frozen? ⟨g, 2, none⟩ = false := by
  have h2 := (h.below hb).alloc (.cells #[.int .i64 (n : Int)] 3)
  have F2 : Foot S (w2.alloc (.cells #[.int .i64 (n : Int)] 3)) g ib m vo vf := (F.below hb.size).below (by simp)
  have hob := (hg.block g (F2.lt g F2.g) (fun e => (h2.o_tag e.symm).1 rfl)).trans h2.obj
  obtain ⟨_, _, d2, _, _, f2, _⟩ := obj_cells hob
  exact ⟨h2.extend F2 hg ho hw, d2, f2⟩

set_option maxRecDepth 100000 in
set_option maxHeartbeats 4000000 in
theorem write_ok (w : World) (S : Nat → Prop) (g : Nat) (s : St) (n : Nat) (v : Value) (l : List UInt8) (h : Dsk w S g s) (hv : Byt w v l) (hne : ∀ k, v.ownBlock = some k → ¬ S k) (hn : n < secs s) (hl : l.length = 512) :
    Calls Try.prog 50 #[.pointer (some ⟨g, 0, none⟩), .int .i64 (n : Int), v] w (Done w S g (writeR s (n : Int) l)) := by
  obtain ⟨ib, ic, m, vo, vf, hd, _, _⟩ := h.parts
  have HM := Lib.hid (made_is w g ib ic m _ vo vf hd h.ok.pos)
  have HH := Lib.hid (has_is w g ib ic m _ vo vf (n : Int) hd h.ok.pos)
  rw [show s.B.length / 512 = secs s from rfl, show decide (0 ≤ (n : Int) ∧ (n : Int) < ((secs s : Nat) : Int)) = true by simp; omega] at HH
  have HF := Lib.hid (fails_is w S g s h)
  have HL := Lib.hid h.lt
  have hok := h.ok
  have hns : n ≤ 9223372036854775807 := by have := hok.few; omega
  have HV := Lib.hid hv
  have HNE := Lib.hid hne
  obtain ⟨A, q, c, rfl, N, hnc, hcm⟩ := hv.form
  obtain rfl : q = 512 := N.out.trans hl
  obtain ⟨b, off, rfl, hb0, hc0⟩ : ∃ b off, A = some ⟨b, off, none⟩ ∧ b < w.heap.size ∧ ∀ j (hj : j < l.length), w.cell? ⟨b, off + j, none⟩ = some (.int .u8 (l[j].toNat : Int)) := hv.at (k := 0) (by omega)
  have HB0 := Lib.hid hb0
  have HC0 := Lib.hid hc0
  have HLL := Lib.hid hl
  have HN := Lib.hid hn
  clear h hd hv hne N hb0 hc0
  cases hbl : blows s.F
  · have HR : Hid (writeR s (n : Int) l = (0, writeS (tick s) n l)) := by
      rw [Hid]; unfold writeR; rw [if_pos ⟨⟨by omega, by omega⟩, hl⟩, hbl]; rfl
    unfold Failed at HF
    rw [hbl] at HF
    clear hbl hn hl
    have Z := rowZero
    have HZ := Lib.hid zero512_len
    go_enter Try.func50, Try.ntmps50
    go_wp2_with fail
    refine HM.out.mono ?_
    rintro e w1 ⟨rfl, rfl⟩
    go_wp2_with fail
    refine HH.out.mono ?_
    rintro e w1 ⟨rfl, rfl⟩
    go_wp2_with fail
    refine HF.out.mono ?_
    rintro e w1 ⟨rfl, hd1, ht1, hs1⟩
    have HT1 := Lib.hid ht1
    have HS1 := Lib.hid hs1
    obtain ⟨ib1, ic1, m1, vo1, vf1, D1, ha1, F1, ok1⟩ := hd1
    obtain ⟨_, c1, _, _, _, _, _⟩ := obj_cells ha1.obj
    obtain ⟨l', hl', LK, _⟩ := look_ok ha1.mp ha1.fits (n := n) hns
    have HP1 := Lib.hid ha1.pre
    have HF1 := Lib.hid F1
    have HO1 := Lib.hid ok1
    have HL1 := Lib.hid hl'
    have hCt : (tick s).C = s.C := rfl
    rw [hCt] at LK
    clear ht1 hs1 ha1 F1 ok1 hl'
    generalize zero512 = z0 at *
    have AR := arrayRun (some ⟨b, off, none⟩) c
    cases hc : lookC s.C n with
    | some x =>
      rw [hc] at LK
      have HK : Hid (keysC (tick s).C = keysC (putC (tick s).C n l)) := by rw [Hid, hCt, put_has l hc]
      clear hc hCt
      rw [Option.isSome_some] at LK
      go_wp2_with (refine wpList_storeRow z0 l' HZ.out HL1.out rfl _ _ rfl rfl rfl ?_; intro w2 hr2 hb2 hs2)
      have HB2 := Lib.hid hb2
      have hkk : PreW w2.drew g (tick s) (keysC (putC (tick s).C n l)) ib1 ic1 m1 vo1 vf1 D1 := HK.out ▸ (HP1.out.below hb2).drew
      have HP2 := Lib.hid hkk
      have HT2 := Lib.hid (HT1.out.trans (Trn.of_below hb2 (S := fun _ => False)) (fun _ _ h => h.elim)).drew
      have HF2 := Lib.hid (HF1.out.below HB2.out.size).drew
      have HC2 : Hid (∀ j (hj : j < l.length), w2.drew.cell? ⟨b, off + j, none⟩ = some (.int .u8 (l[j].toNat : Int))) := fun j hj =>
        (World.cell?_of_block (a := ⟨b, off + j, none⟩) (HT2.out.block b HB0.out (HNE.out b rfl))).trans (HC0.out j hj)
      obtain ⟨w3, hrun, hm3, hg3⟩ := store_run HP2.out HO1.out (n := n) (l := l) hns HLL.out
      have HD3 := Lib.hid (HP2.out.wrote HF2.out HO1.out HN.out HLL.out hm3 hg3)
      have HG3 := Lib.hid (HT2.out.trans (Trn.of_grown (S := S) hg3 (fun i hi => by injection hi with hi; exact hi ▸ HF2.out.m)) (fun _ _ h => h))
      have HCM := Lib.hid (obj_cells HP2.out.obj).2.1
      clear hb2 hr2 hm3 hg3 hkk HP2 c1
      refine wp_region_T (R := fun x y => x = y) (by kernel_rfl) (fun _ => rfl) (fun h k => h.trans k) (by kernel_rfl) 8 rfl (by kernel_rfl) (by kernel_rfl) (fun d v c a w h => by cases d <;> exact h)
        [(0, false), (1, false), (2, false), (3, false), (4, false), (5, false), (6, false), (7, false)] rfl (by kernel_rfl) ?_
      simp only [sel, List.getElem?_toArray, List.getElem?_cons_succ, List.getElem?_cons_zero]
      generalize w2.drew = wd at *
      iterate 3 (refine schT_take ?_ rfl ?_ ?_; rotate_left; (focus (intro u hu; go_simp <;> rfl)); simp only [Act.put, List.setIfInBounds_toArray, List.set_cons_zero, List.set_cons_succ])
      (refine schT_take ?_ rfl ?_ ?_; rotate_left; (focus (intro u hu; have hc := hu ▸ HCM.out; clear hu; go_simp <;> rfl)); simp only [Act.put, List.setIfInBounds_toArray, List.set_cons_zero, List.set_cons_succ])
      iterate 3 (refine schT_take ?_ rfl ?_ ?_; rotate_left; (focus (intro u hu; go_simp <;> rfl)); simp only [Act.put, List.setIfInBounds_toArray, List.set_cons_zero, List.set_cons_succ])
      refine schT_take _ rfl (fun u hu => exec_loadSector _ rfl b off rfl HLL.out (fun j hj => hu ▸ HC2.out j hj)) ?_
      simp only [Act.put, List.setIfInBounds_toArray, List.set_cons_zero, List.set_cons_succ]
      refine schT_nil ?_
      refine schT_last rfl rfl ?_
      go_simp
      go_wp2_with fail
      go_ret
      rw [HR.out]
      exact ⟨rfl, HD3.out.more HG3.out.size HL.out, HG3.out⟩
    | none =>
      rw [hc] at LK
      have HK : Hid (keysC (tick s).C ++ [n] = keysC (putC (tick s).C n l)) := by rw [Hid, hCt, put_new l hc]; simp [keysC]
      clear hc hCt
      rw [Option.isSome_none] at LK
      obtain ⟨i0, hi0, hz0, hz1, hz2⟩ := info_parts iinfo
      have HCN : Hid ((keysC (tick s).C).length ≤ 32768) := by rw [Hid, keysC_len]; exact HO1.out.cnt
      go_wp2_with (first
        | (refine wpList_storeRow z0 l' HZ.out HL1.out rfl _ _ rfl rfl rfl ?_; intro w2 hr2 hb2 hs2; obtain ⟨_, _, c2, _, _, _, _⟩ := obj_cells (HP1.out.below hb2).obj; have HB2 := Lib.hid hb2; clear hb2 hr2)
        | (at_builtin; refine wpList_append_own_at _ rfl (.tmp 38) (.tmp 40) _ rfl 0 3 i0 _ 1 8 Try.underlying41 hi0 hz0 hz1 hz2 rfl (by omega) _ (keysC (tick s).C).length (inz (keysC (tick s).C)) rfl (World.ownsRow.alloc (HP1.out.below HB2.out).ord _) ⟨w2.heap.size, 0, none⟩ 1 1 [.int .i64 (n : Int)] rfl rfl (cell_one_new _ _ _) (by simp [Value.oneCell']) (by have := HCN.out; simp only [maxLen]; omega) (by have := HCN.out; omega) (Nat.zero_le _) ?_; intro v3 w3 hown3 hg3 _ hat3; obtain ⟨A3, n3, c3, rfl, N3, _, _⟩ := (ints_rowz hown3).form; obtain ⟨hx, d2, f2⟩ := extend_all HP1.out HF1.out HB2.out hg3 hown3 hat3; have HX := Lib.hid hx; clear hown3 hg3 hat3 hx))
      have HT2 := Lib.hid (((HT1.out.trans (Trn.of_below HB2.out (S := fun _ => False)) (fun _ _ h => h.elim)).alloc (.cells #[.int .i64 (n : Int)] 3)).trans HX.out.2.2 (fun _ _ h => h)).drew
      have hkk : PreW (w3.setCell ⟨g, 2, none⟩ (.slice A3 n3 c3)).drew g (tick s) (keysC (putC (tick s).C n l)) ib1 ic1 m1 (.slice A3 n3 c3) vf1 D1 := HK.out ▸ HX.out.1.drew
      have HP2 := Lib.hid hkk
      have HF2 := Lib.hid HX.out.2.1.drew
      have HC2 : Hid (∀ j (hj : j < l.length), (w3.setCell ⟨g, 2, none⟩ (.slice A3 n3 c3)).drew.cell? ⟨b, off + j, none⟩ = some (.int .u8 (l[j].toNat : Int))) := fun j hj =>
        (World.cell?_of_block (a := ⟨b, off + j, none⟩) (HT2.out.block b HB0.out (HNE.out b rfl))).trans (HC0.out j hj)
      obtain ⟨w4, hrun, hm3, hg3⟩ := store_run HP2.out HO1.out (n := n) (l := l) hns HLL.out
      have HD3 := Lib.hid (HP2.out.wrote HF2.out HO1.out HN.out HLL.out hm3 hg3)
      have HG3 := Lib.hid (HT2.out.trans (Trn.of_grown (S := S) hg3 (fun i hi => by injection hi with hi; exact hi ▸ HF1.out.m)) (fun _ _ h => h))
      have HZ3 : Hid (w.heap.size ≤ (w2.alloc (.cells #[.int .i64 (n : Int)] 3)).heap.size ∧ w3.heap.size ≤ w4.heap.size) := ⟨by have := HS1.out; have := HB2.out.size; simp; omega, by have := hg3.size; rw [show (w3.setCell ⟨g, 2, none⟩ (.slice A3 n3 c3)).drew.heap.size = w3.heap.size from setCell_size _ _ _] at this; exact this⟩
      have HCM := Lib.hid (obj_cells HP2.out.obj).2.1
      clear hm3 hg3 hkk HP2 HX c1 c2 d2 f2
      refine wp_region_T (R := fun x y => x = y) (by kernel_rfl) (fun _ => rfl) (fun h k => h.trans k) (by kernel_rfl) 8 rfl (by kernel_rfl) (by kernel_rfl) (fun d v c a w h => by cases d <;> exact h)
        [(0, false), (1, false), (2, false), (3, false), (4, false), (5, false), (6, false), (7, false)] rfl (by kernel_rfl) ?_
      simp only [sel, List.getElem?_toArray, List.getElem?_cons_succ, List.getElem?_cons_zero]
      generalize (w3.setCell ⟨g, 2, none⟩ (.slice A3 n3 c3)).drew = wd at *
      iterate 3 (refine schT_take ?_ rfl ?_ ?_; rotate_left; (focus (intro u hu; go_simp <;> rfl)); simp only [Act.put, List.setIfInBounds_toArray, List.set_cons_zero, List.set_cons_succ])
      (refine schT_take ?_ rfl ?_ ?_; rotate_left; (focus (intro u hu; have hc := hu ▸ HCM.out; clear hu; go_simp <;> rfl)); simp only [Act.put, List.setIfInBounds_toArray, List.set_cons_zero, List.set_cons_succ])
      iterate 3 (refine schT_take ?_ rfl ?_ ?_; rotate_left; (focus (intro u hu; go_simp <;> rfl)); simp only [Act.put, List.setIfInBounds_toArray, List.set_cons_zero, List.set_cons_succ])
      refine schT_take _ rfl (fun u hu => exec_loadSector _ rfl b off rfl HLL.out (fun j hj => hu ▸ HC2.out j hj)) ?_
      simp only [Act.put, List.setIfInBounds_toArray, List.set_cons_zero, List.set_cons_succ]
      refine schT_nil ?_
      refine schT_last rfl rfl ?_
      go_simp
      go_wp2_with fail
      go_ret
      rw [HR.out]
      refine ⟨rfl, HD3.out.wide ?_ (more_lt HG3.out.size HL.out), HG3.out⟩
      rintro k (hk | hk)
      · exact .inl hk
      · exact .inr ⟨Nat.le_trans HZ3.out.1 hk.1, Nat.lt_of_lt_of_le hk.2 HZ3.out.2⟩
  · have HR : Hid (writeR s (n : Int) l = (8, tick s)) := by
      rw [Hid]; unfold writeR; rw [if_pos ⟨⟨by omega, by omega⟩, hl⟩, hbl]; rfl
    unfold Failed at HF
    rw [hbl] at HF
    clear hbl hn hl
    go_enter Try.func50, Try.ntmps50
    go_wp2_with fail
    refine HM.out.mono ?_
    rintro e w1 ⟨rfl, rfl⟩
    go_wp2_with fail
    refine HH.out.mono ?_
    rintro e w1 ⟨rfl, rfl⟩
    go_wp2_with fail
    refine HF.out.mono ?_
    rintro e w1 ⟨rfl, hd1, ht1, hs1⟩
    have HD1 := Lib.hid hd1
    have HT1 := Lib.hid ht1
    clear hd1 ht1 hs1
    go_wp2_with fail
    go_ret
    rw [HR.out]
    exact ⟨rfl, HD1.out.more HT1.out.size HL.out, HT1.out⟩
end Go.Proofs.Ytmfcckmcbmlhmaa
