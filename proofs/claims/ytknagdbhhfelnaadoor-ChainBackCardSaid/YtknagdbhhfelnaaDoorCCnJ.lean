/-
  Package chain's links: the iterator over a chain's pages, in the loop of Read. Conditions: no fault, no pins; pages lead to the pool's pages alone.
-/
import Derived.Test.YtknagdbhhfelnaaDoorCCnI
import Derived.Test.YtknagdbhhfelnaaDoorCCnD
import Derived.Test.YtknagdbhhfelnaaDoorCPlE
import Derived.Test.YtknagdbhhfelnaaDoorCOrdR
namespace Go.Proofs.YtknagdbhhfelnaaDoor
open Go.RowKit Go.Shelf Go.Maps
set_option maxRecDepth 100000
attribute [local go_sem] Oper.semAt_some
set_option linter.unusedVariables false

/-- A page that came: its number, the next one, its bytes, where links keeps them. -/
structure Lk where
  n : Nat
  nx : Nat
  v : Value
  x : List UInt8
  z : Nat
def pgsL (pre : List Lk) : List Nat := pre.map (·.n)
def btsL (pre : List Lk) : List UInt8 := (pre.map (·.x)).flatten
def curL (head : Nat) (pre : List Lk) : Nat := match pre.getLast? with
  | none => head
  | some e => e.nx
theorem pgsL_snoc (pre : List Lk) (e : Lk) : pgsL (pre ++ [e]) = pgsL pre ++ [e.n] := by simp [pgsL]
theorem btsL_snoc (pre : List Lk) (e : Lk) : btsL (pre ++ [e]) = btsL pre ++ e.x := by simp [btsL]
theorem curL_snoc (head : Nat) (pre : List Lk) (e : Lk) : curL head (pre ++ [e]) = e.nx := by simp [curL]
theorem pgsL_len (pre : List Lk) : (pgsL pre).length = pre.length := by simp [pgsL]
/-- The next page is the pool's. -/
def Closed (has : Nat → List UInt8) (k n : Nat) : Prop := ∀ x place nx y, x < n → toldB (has x) k place = some (nx, y) → nx < n
structure PlainI (has : Nat → List UInt8) (k most head n : Nat) (pre : List Lk) : Prop where
  le : pre.length ≤ most
  bl : (btsL pre).length ≤ pre.length * 4074
  cn : curL head pre < n
  rd : readT has k most [] [] head = readT has k (most - pre.length) (pgsL pre) (btsL pre) (curL head pre)
section
variable {has : Nat → List UInt8} {k most head n : Nat} {pre : List Lk}
theorem PlainI.nil (h : head < n) : PlainI has k most head n [] := ⟨Nat.zero_le _, Nat.zero_le _, h, rfl⟩
theorem PlainI.done (h : PlainI has k most head n pre) (h0 : curL head pre = 0) : readT has k most [] [] head = some (btsL pre, pgsL pre) := by
  rw [h.rd, h0]
  cases most - pre.length <;> simp [readT]
theorem PlainI.fails (h : PlainI has k most head n pre) (h0 : curL head pre ≠ 0) (ht : toldB (has (curL head pre)) k pre.length = none) : readT has k most [] [] head = none := by
  rw [h.rd]
  cases most - pre.length with
  | zero => simp [readT, h0]
  | succ f => simp [readT, h0, pgsL_len, ht]
theorem PlainI.more (h : PlainI has k most head n pre) (h0 : curL head pre ≠ 0) (hm : most ≤ pre.length) : readT has k most [] [] head = none := by
  rw [h.rd, show most - pre.length = 0 by omega]
  simp [readT, h0]
theorem PlainI.circle (h : PlainI has k most head n pre) (h0 : curL head pre ≠ 0) {nx : Nat} {x : List UInt8} (ht : toldB (has (curL head pre)) k pre.length = some (nx, x)) (hc : nx ∈ pgsL pre ++ [curL head pre]) : readT has k most [] [] head = none := by
  rw [h.rd]
  cases most - pre.length with
  | zero => simp [readT, h0]
  | succ f => simp only [readT, if_neg h0, pgsL_len, ht, if_pos hc]
theorem PlainI.step (h : PlainI has k most head n pre) (hcl : Closed has k n) (h0 : curL head pre ≠ 0) {e : Lk} (hn : e.n = curL head pre) (ht : toldB (has e.n) k pre.length = some (e.nx, e.x)) (hc : e.nx ∉ pgsL pre ++ [e.n]) (hm : pre.length < most) : PlainI has k most head n (pre ++ [e]) := by
  refine ⟨by simp; omega, ?_, ?_, ?_⟩
  · obtain ⟨h1, _, h2⟩ := told_some ht
    have h3 := toldOk_size h1
    have h4 := h.bl
    rw [btsL_snoc, List.length_append, List.length_append, h2, h3.2.2]
    simp only [List.length_cons, List.length_nil]
    have h5 := h3.1
    omega
  · rw [curL_snoc]
    exact hcl _ _ _ _ (by rw [hn]; exact h.cn) ht
  · rw [h.rd, curL_snoc, pgsL_snoc, btsL_snoc]
    obtain ⟨f, hf⟩ : ∃ f, most - pre.length = f + 1 := ⟨most - pre.length - 1, by omega⟩
    rw [hf, show most - (pre ++ [e]).length = f by simp; omega]
    rw [hn] at ht hc ⊢
    simp only [readT, if_neg h0, pgsL_len, ht, if_neg hc]
end

section
variable (w : World) (T0 : Nat → Prop) (p d fb n m : Nat) (has : Nat → List UInt8) (q k head most : Nat)
/-- The loop of Read under way: er: the fault. -/
def RdMem (er : Nat) (pre : List Lk) (T : Nat → Prop) (bv pv : Value) (W : World) : Prop :=
  RdFix w W T0 p d fb n m has q k head most T ∧ RdVar W q er (btsL pre) (pgsL pre) T bv pv ∧ q + 9 ≤ W.heap.size
/-- Behind so many rounds. -/
def RdI (pre : List Lk) (W : World) : Prop := PlainI has k most head n pre ∧ ∃ T bv pv, RdMem w T0 p d fb n m has q k head most 0 pre T bv pv W ∧ ∀ e, pre.getLast? = some e → LkBox W e.z e.nx e.v ∧ q + 9 ≤ e.z ∧ ¬ T e.z
/-- At a round's beginning. -/
def RdY (pre : List Lk) (e : Lk) (W : World) : Prop := (PlainI has k most head n pre ∧ curL head pre ≠ 0 ∧ e.n = curL head pre ∧ toldB (has e.n) k pre.length = some (e.nx, e.x)) ∧
  ∃ T bv pv, RdMem w T0 p d fb n m has q k head most 0 pre T bv pv W ∧ (LkBox W e.z e.nx e.v ∧ q + 9 ≤ e.z ∧ ¬ T e.z) ∧ ∃ A c, e.v = .slice A e.x.length c ∧ Own W (q + 9) 5 e.v e.x ∧ ∀ g, e.v.ownBlock = some g → bv.ownBlock ≠ some g ∧ ¬ T g
/-- The end that links comes to. -/
def RdD (W : World) : Prop := (∃ pre T bv pv, RdMem w T0 p d fb n m has q k head most 0 pre T bv pv W ∧ readT has k most [] [] head = some (btsL pre, pgsL pre)) ∨ (∃ pre T bv pv, RdMem w T0 p d fb n m has q k head most 4 pre T bv pv W ∧ readT has k most [] [] head = none)
end
section
variable {w W W' : World} {T0 T T1 : Nat → Prop} {p d fb n m q k head most er : Nat} {has : Nat → List UInt8} {pre : List Lk} {bv pv : Value}
theorem RdMem.below (h : RdMem w T0 p d fb n m has q k head most er pre T bv pv W) (hb : Below W.heap.size W W') : RdMem w T0 p d fb n m has q k head most er pre T bv pv W' := ⟨h.1.below hb, h.2.1.below hb, Nat.le_trans h.2.2 hb.size⟩
theorem RdMem.book (h : RdMem w T0 p d fb n m has q k head most er pre T bv pv W) (hb : Below W.heap.size W W') : BookSame (q + 7) W W' := book_below (by have := h.2.2; omega) hb
theorem RdMem.get (h : RdMem w T0 p d fb n m has q k head most er pre T bv pv W) (ht : Trn T W W') (hp : PlT W' T1 p d fb n m has) (hm : ∀ j, T1 j → more T W W' j) : RdMem w T0 p d fb n m has q k head most er pre T1 bv pv W' ∧ BookSame (q + 7) W W' := by
  obtain ⟨a, b⟩ := h.1.get ht hp hm (by have := h.2.2; omega)
  exact ⟨⟨a, h.2.1.get h.1 ht hm, Nat.le_trans h.2.2 ht.size⟩, b⟩
theorem RdMem.setF (h : RdMem w T0 p d fb n m has q k head most er pre T bv pv W) (er' : Nat) : RdMem w T0 p d fb n m has q k head most er' pre T bv pv (W.setCell ⟨q + 2, 0, none⟩ (.int .i64 (er' : Int))) ∧ BookSame (q + 7) W (W.setCell ⟨q + 2, 0, none⟩ (.int .i64 (er' : Int))) := by
  obtain ⟨a, b⟩ := h.2.1.setF er'
  have hY : ∀ j, j = q + 2 → j = q ∨ j = q + 1 ∨ j = q + 2 ∨ (q + 9 ≤ j ∧ ¬ T j) := fun j e => .inr (.inr (.inl e))
  exact ⟨⟨h.1.step b hY, a, by rw [setCell_size]; exact h.2.2⟩, h.1.book (by have := h.2.2; omega) b hY⟩
end
def encsL (e : Lk) : Array Value := #[.int .i64 (e.n : Int), .agg #[.int .i64 (e.nx : Int), e.v]]
def LkRel (w : World) (T0 : Nat → Prop) (p d fb n m : Nat) (has : Nat → List UInt8) (q k head most : Nat) (G : World → Prop) (i j : Value) (wr : World) : Prop :=
  ∃ pre : List Lk, i = .int .i64 (pre.length : Int) ∧ j = .int .i64 (curL head pre : Int) ∧ RdI w T0 p d fb n m has q k head most pre wr ∧ G wr
set_option maxRecDepth 100000 in
set_option maxHeartbeats 4000000 in
theorem links1_runs (w : World) (T0 : Nat → Prop) (p d fb n m : Nat) (has : Nat → List UInt8) (q k head most : Nat) (hcl : Closed has k n) (hmost : most ≤ 1073741824) :
    SeqRuns Fence.wide 2 Tryd.prog 49 #[.pointer (some ⟨q + 5, 0, none⟩), .pointer (some ⟨q + 3, 0, none⟩), .pointer (some ⟨q + 6, 0, none⟩), .pointer (some ⟨q + 4, 0, none⟩)] encsL (q + 7) (RdI w T0 p d fb n m has q k head most) (RdY w T0 p d fb n m has q k head most) (RdD w T0 p d fb n m has q k head most) := by
  intro G X hG hY W hI hGW
  generalize q + 7 + 1 = lp at hY ⊢
  have HG := Lib.hid hG
  have HY := Lib.hid hY
  have hId : RdI w T0 p d fb n m has q k head most [] W.drew := by
    obtain ⟨a, T, bv, pv, b, c⟩ := hI
    exact ⟨a, T, bv, pv, b.below (Below.refl _ _).drew, fun e he => by cases he⟩
  have HI := Lib.hid hId
  have HGD : Hid (G W.drew) := hG W W.drew (fun _ _ _ => rfl) hGW
  have HH : Hid (W.drew.cell? ⟨q + 5, 0, none⟩ = some (.int .i64 (head : Int))) := by
    obtain ⟨a, T, bv, pv, b, c⟩ := hId
    exact b.1.ch.cell 0 _ rfl
  clear hG hY hI hGW hId
  refine callsIn_of_wp Tryd.func49 rfl trivial ?_ rfl
  simp only [Tryd.ntmps49, List.size_toArray, List.length_cons, List.length_nil, Nat.reduceAdd, Nat.reduceSub, Array.replicate_succ, Array.replicate_zero, List.push_toArray, List.append_toArray, List.nil_append, List.cons_append]
  gi_wp2
  refine wpIn_wide.2 (wp_onlyN ?_)
  refine wp_region_R (R := fun x y => x = y) (by kernel_rfl) (fun _ => rfl) (fun h k => h.trans k) (by kernel_rfl) (fun d v c a w h => by cases d <;> exact h)
    [(0, false), (1, false), (2, false)] rfl (by kernel_rfl) (by kernel_rfl) ?_
  simp only [sel, List.getElem?_toArray, List.getElem?_cons_succ, List.getElem?_cons_zero]

  generalize W.drew = wd at *
  (refine sch_take ?_ rfl ?_ ?_; rotate_left; (focus (intro u hu; subst hu; have c1 := HH.out; go_simp <;> rfl)); simp only [Act.put, List.setIfInBounds_toArray, List.set_cons_zero, List.set_cons_succ])
  iterate 2 (refine sch_take ?_ rfl ?_ ?_; rotate_left; (focus (intro u hu; go_simp <;> rfl)); simp only [Act.put, List.setIfInBounds_toArray, List.set_cons_zero, List.set_cons_succ])
  refine sch_nilN ?_

  gi_wp2
  gi_loopw [6, 7] (fun i j wr => LkRel w T0 p d fb n m has q k head most G i j wr) (fun i _ _ => most + 1 - (intOf i).toNat)
  case atStart => exact ⟨[], rfl, rfl, HI.out, HGD.out⟩
  case round =>
    obtain ⟨pre, rfl, rfl, ⟨hpl, T, bv, pv, hmem, hlast⟩, hGr⟩ := hrel
    have HPL := Lib.hid hpl
    have HGR := Lib.hid hGr
    have HME := Lib.hid hmem
    clear hlast hGr
    by_cases h0 : curL head pre = 0
    · have hc0 : ((curL head pre : Int) != 0) = false := by rw [h0]; rfl
      clear hmem
      gi_wp2
      go_end0
      exact ⟨⟨_, rfl⟩, .inl ⟨.inl ⟨pre, T, bv, pv, HME.out, HPL.out.done h0⟩, HGR.out⟩⟩
    · have hc0 : ((curL head pre : Int) != 0) = true := by simp; omega
      have hcn := hpl.cn
      generalize hcur : curL head pre = cur at *
      have HCUR := Lib.hid hcur
      have H0 := Lib.hid h0
      obtain ⟨P, hP, hTI⟩ := hmem.1.pool
      have hgf := get_free hTI hcn
      have HGF := Lib.hid hgf
      have HGT := Lib.hid (pget_is hP (cur : Int) (by rw [hgf.1]; have := hTI.hl cur; omega))
      have cP := hmem.1.cp.cell 0 _ rfl
      have HPLN : Hid (pre.length ≤ most) := hpl.le
      have hp32 : pre.length < 4294967296 := by have := hpl.le; omega
      have HP32 := Lib.hid hp32
      have hz9 := hmem.2.2
      have HZ9 := Lib.hid hz9
      clear hmem hpl hP hTI hgf hcur h0 hz9
      gi_wp2
      refine ⟨trivial, ?_⟩
      refine (callsIn_wide.2 HGT.out).mono ?_
      rintro e w1 ⟨v1, T1, rfl, ho1, hp1, hm1, hv1, ht1⟩
      rw [HGF.out.1] at ho1
      have hPT : PlT w1 T1 p d fb n m has := ⟨_, hp1, HGF.out.2.2⟩
      obtain ⟨hme1, hbk1⟩ := HME.out.get ht1 hPT hm1
      have HM1 := Lib.hid hme1
      have HG1 : Hid (G w1) := HG.out _ _ hbk1 HGR.out
      have HTD := Lib.hid (ctold_any w1 v1 (has cur) k pre.length ho1.byt HP32.out)
      have cK := hme1.1.ck.cell 0 _ rfl
      have cF := hme1.1.cf.cell 0 _ rfl
      rw [HGF.out.2.1]
      clear ho1 hp1 hm1 hv1 ht1 hPT hme1 hbk1 cP
      cases htd : toldB (has cur) k pre.length with
      | none =>
        rw [htd] at HTD
        gi_wp2
        refine ⟨trivial, ?_⟩
        refine (callsIn_wide.2 HTD.out).mono ?_
        rintro e w2 ⟨hb2, rfl⟩
        have HM2 := Lib.hid (HM1.out.below hb2)
        have HG2 : Hid (G w2) := HG.out _ _ (HM1.out.book hb2) HG1.out
        clear hb2 cK cF
        gi_wp2_with (first
          | (refine wpListIn_storeS (SBox.new w2 63 [.int .i64 0, .slice none 0 0]) lkInfo rfl (.tmp 10) (.tmp 32) rfl rfl (ds := [.int .i64 0, .slice none 0 0]) rfl rfl (one_lk _ _ _ _) ?_; intro w3 hs3 hg3 hz3
             have hb3 : Below w2.heap.size w2 w3 := (below_new w2 _).grown hg3 (by simp) (fun j e => by cases e; exact Nat.le_refl _)
             have HM3 := Lib.hid (HM2.out.below hb3)
             have HG3 : Hid (G w3) := HG.out _ _ (HM2.out.book hb3) HG2.out
             have cF := HM3.out.1.cf.cell 0 _ rfl
             have cE := HM3.out.2.1.bf.cell 0 _ rfl
             have fE := HM3.out.2.1.bf.frozen 0
             clear hs3 hg3 hz3 hb3))
        gi_wp2
        refine bodyPost_ret (results_none rfl _ _ _) rfl ?_
        obtain ⟨m4, b4⟩ := HM3.out.setF 4
        exact ⟨⟨_, rfl⟩, .inl ⟨.inr ⟨pre, T1, bv, pv, m4, HPL.out.fails (by rw [HCUR.out]; exact H0.out) (by rw [HCUR.out]; exact htd)⟩, HG.out _ _ b4 HG3.out⟩⟩
      | some r =>
        obtain ⟨nx, x⟩ := r
        rw [htd] at HTD
        have HTO := Lib.hid htd
        clear htd
        gi_wp2
        refine ⟨trivial, ?_⟩
        refine (callsIn_wide.2 HTD.out).mono ?_
        rintro e w2 ⟨hb2, v2, rfl, ho2⟩
        obtain ⟨A2, c2, rfl⟩ := ownsRow_form ho2
        have HO2 := Lib.hid ho2
        have HM2 := Lib.hid (HM1.out.below hb2)
        have HG2 : Hid (G w2) := HG.out _ _ (HM1.out.book hb2) HG1.out
        have HZ2 := Lib.hid hb2.size
        clear hb2 cK cF ho2
        gi_wp2_with (first
          | (refine wpListIn_storeS (SBox.new w2 63 [.int .i64 0, .slice none 0 0]) lkInfo rfl (.tmp 10) (.tmp 32) rfl rfl (ds := [.int .i64 (nx : Int), .slice A2 x.length c2]) rfl rfl (one_lk _ _ _ _) ?_; intro w3 hs3 hg3 hz3
             have hb3 : Below w2.heap.size w2 w3 := (below_new w2 _).grown hg3 (by simp) (fun j e => by cases e; exact Nat.le_refl _)
             have HM3 := Lib.hid (HM2.out.below hb3)
             have HG3 : Hid (G w3) := HG.out _ _ (HM2.out.book hb3) HG2.out
             have HS3 := Lib.hid hs3
             have HO3 := Lib.hid (HO2.out.keep hb3)
             have c30 := SBox.cell hs3 0 _ rfl
             have c31 := SBox.cell hs3 1 _ rfl
             clear hs3 hg3 hz3 hb3
             have hy : RdY w T0 p d fb n m has q k head most pre ⟨cur, nx, .slice A2 x.length c2, x, w2.heap.size⟩ w3 := by
               refine ⟨⟨HPL.out, by rw [HCUR.out]; exact H0.out, HCUR.out.symm, HTO.out⟩, T1, bv, pv, HM3.out, ⟨HS3.out, by have := HM2.out.2.2; exact this, fun h => ?_⟩, A2, c2, rfl, HO3.out.lower (by have := HM1.out.2.2; exact this), fun g hg => ⟨fun e => ?_, fun h => ?_⟩⟩
               · exact absurd (HM2.out.1.pool.lt _ h) (Nat.lt_irrefl _)
               · have h1 := (World.ownsRow.lt HO3.out g hg).1
                 have h2 := (World.ownsRow.lt HM1.out.2.1.ob g e).2
                 omega
               · have h1 := (World.ownsRow.lt HO3.out g hg).1
                 have h2 := HM1.out.1.pool.lt g h
                 omega
             obtain ⟨fn, tmps, assign, body, hyy, hR⟩ := HY.out pre _ w3 hy HG3.out
             simp only [encsL] at hyy
             clear hy))
        refine hR.mono ?_
        rintro e W4 (⟨rfl, hI4, hG4⟩ | ⟨rfl, hX4⟩)
        · have hl4 := hI4
          obtain ⟨hp4, T4, bv4, pv4, hm4, hla4⟩ := hl4
          have hz4 := (hla4 ⟨cur, nx, .slice A2 x.length c2, x, w2.heap.size⟩ (by simp)).1
          have c40 := LkBox.c0 hz4
          have HI4 := Lib.hid hI4
          have HG4 := Lib.hid hG4
          clear hI4 hG4 hp4 hm4 hla4 hz4 c30 c31
          gi_wp2
          go_roundw
          case rel => exact ⟨pre ++ [⟨cur, nx, .slice A2 x.length c2, x, w2.heap.size⟩], by simp, by rw [curL_snoc], HI4.out, HG4.out⟩
          case measure => simp [intOf]; have := HPLN.out; omega
        · gi_wp2
          refine bodyPost_ret (results_none rfl _ _ _) rfl ?_
          exact ⟨⟨_, rfl⟩, .inr hX4⟩
end Go.Proofs.YtknagdbhhfelnaaDoor
