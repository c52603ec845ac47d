/-
  Package table's Set, Clear by their contracts; a copy onto a row of the call's own. Conditions: lists of at most 65536 ints of 64 bits.
-/
import Derived.Test.YthakkaffjnkhgaaTbE
import Derived.Test.YthakkaffjnkhgaaRead5
import Derived.Laws.CopyOwn
import Derived.OwnWalk
namespace Go.Proofs.Ythakkaffjnkhgaa
open Go.RowKit Go.Maps
set_option maxRecDepth 100000
set_option linter.unusedVariables false
set_option linter.unusedSimpArgs false

section
variable {P : Program} {ops : Array Oper} {rest : List Oper} {o : Oper} {a : Act} {w : World} {Q : Exit → Act → World → Prop}
/-- 'copy(d, s)', d a row of the call's own, s no longer than d. -/
theorem wpList_copyV (hgd : o.guard = none) (d s : Operand) (dT sT : TypeId) (ho : o.op = .call { callee := .builtin .copy, args := #[d, s], argTypes := #[dT, sT] }) (elem : TypeId) (hu : P.underlying dT = some (.slice elem)) (hsz : (P.info? elem).map (·.size) = some 1)
    {B g n c : Nat} {L cs : List Value} (hd : a.eval d = .slice (some ⟨g, 0, none⟩) n c) (hown : OwnV w B elem (.slice (some ⟨g, 0, none⟩) n c) L) (hL : L.length = n) (sv : Value) (hs : a.eval s = sv) (hx : Rowz w sv cs) (hcs : cs.length ≤ n) (h1 : ∀ v ∈ cs, v.oneCell' = true)
    (h : ∀ w', OwnV w' B elem (.slice (some ⟨g, 0, none⟩) n c) (cs ++ L.drop cs.length) → w.grownBy w' (some g) → wpList P ops Q rest (a.put o.dst (goInt cs.length)) w') : wpList P ops Q (o :: rest) a w := by
  obtain ⟨A, c', rfl, hc1, hc2, h3⟩ := hx
  by_cases h0 : cs.length = 0
  · obtain rfl : cs = [] := List.eq_nil_of_length_eq_zero h0
    refine wpList_copy_nothing hgd d s dT sT ho elem hu hsz _ _ n c 0 c' hd hs (by simp) ?_
    exact h w (by simpa using hown) (World.grownBy.refl w _)
  · rcases h3 with rfl | ⟨b, off, rfl, hb, hc⟩
    · simp at h0
    · rcases hown.2 with ⟨e, _⟩ | ⟨g', cap, cur, e, hle0, hg, q1, q2, q3, q4⟩
      · cases e
      · injection e with e1 e2 e3
        injection e1 with e1
        injection e1 with e1
        subst e1 e3
        have hnc : n = L.length := hL.symm
        refine wpList_copy_own hgd d s dT sT ho elem hu hsz g 0 n c ⟨b, off, none⟩ cs.length c' hd hs cur _ hg cs (Nat.min_eq_left hcs).symm (fun j v hv => ?_) (by omega) h1 ?_
        · obtain ⟨hj, rfl⟩ := List.getElem?_eq_some_iff.1 hv
          rw [plainAdd]
          exact hc j hj
        · have hcl : cur.toList.length = c := by rw [Array.length_toList]; omega
          refine h _ ⟨?_, .inr ⟨g, c, _, ?_, hle0, setRow_heap w g _ _ _ _ hg, ?_, q2, ?_, ?_⟩⟩ ⟨rfl, rfl, rfl, by simp [World.setRow], fun k hk hne => setRow_other w g k _ (fun e => hne (by rw [e]))⟩
          · simp
          · simp
            omega
          · simp
            omega
          · simp
            omega
          · have q4' : cur.toList.take n = L := by rw [← q4, hnc]; simp
            simp only [List.take_zero, List.nil_append, Nat.zero_add]
            rw [← q4']
            simp only [List.length_append, List.length_drop, List.length_take]
            rw [List.take_append]
            rw [List.take_of_length_le (by omega)]
            congr 1
            rw [List.drop_take]
            congr 1
            omega
end

/-! Set. -/
/-- What a call that answers a table and an error leaves. -/
def TbOut (w : World) (r : List Int × Int) (e : Ending) (w' : World) : Prop := ∃ x, e = .returned (.tuple #[.agg #[x], .int .i64 r.2]) ∧ RowO w' w.heap.size x r.1 ∧ Below w.heap.size w w'
/-- A box of a table that came in, and one for the answer. -/
theorem tb_boxes (w : World) (v : Value) : ∃ w0, (w.alloc (.cells #[v] 24)).alloc (.cells #[.slice none 0 0] 24) = w0 ∧ Below w.heap.size w w0 ∧ w0.heap.size = w.heap.size + 2 ∧ TbBox w0 w.heap.size v ∧ TbBox w0 (w.heap.size + 1) (.slice none 0 0) := by
  refine ⟨_, rfl, (below_new w _).trans ((below_new _ _).mono (by simp)), by simp, (SBox.new w 24 [v]).alloc _, ?_⟩
  have := SBox.new (w.alloc (.cells #[v] 24)) 24 [.slice none 0 0]
  rw [World.size_alloc] at this
  exact this
theorem intC_rep (n : Nat) : intC (List.replicate n 0) = List.replicate n (.int .i64 0) := by simp [intC]
theorem intC_set (l : List Int) (j : Nat) (p : Int) : intC (l.set j p) = (intC l).set j (.int .i64 p) := by simp [intC, List.map_set]
theorem intC_drop (l : List Int) (j : Nat) : intC (l.drop j) = (intC l).drop j := by simp [intC, List.map_drop]
theorem intInfo1 : (Try.prog.info? 3).map (·.size) = some 1 := by kernel_rfl
theorem intsInfo1 : (Try.prog.info? 22).map (·.size) = some 1 := by kernel_rfl
theorem own_at {w : World} {B g n c : Nat} {e : TypeId} {vs : List Value} (h : OwnV w B e (.slice (some ⟨g, 0, none⟩) n c) vs) (hl : vs.length = n) {j : Nat} (hj : j < n) : w.cell? ⟨g, j, none⟩ = some (vs[j]'(by omega)) := by
  obtain ⟨g', c', e', _, _, _, _, hc, _⟩ := h.form (by omega)
  injection e' with e1 _ _
  injection e1 with e1
  injection e1 with e1
  subst e1
  exact hc j (by omega)
theorem own_thaw {w : World} {B g n c : Nat} {e : TypeId} {vs : List Value} (h : OwnV w B e (.slice (some ⟨g, 0, none⟩) n c) vs) (j : Nat) : w.frozen? ⟨g, j, none⟩ = false := by
  rcases h.2 with ⟨e, _⟩ | ⟨g', cap, cur, e, _, hg, _⟩
  · cases e
  · injection e with e1 _ _
    injection e1 with e1
    injection e1 with e1 _ _
    subst e1
    simp [World.frozen?, hg]
set_option maxHeartbeats 4000000 in
set_option maxRecDepth 100000 in
theorem tset_any (w : World) (v : Value) (zs : List Int) (n p : Int) (h : TbIn w v zs) :
    Calls Try.prog 8 #[.agg #[v], .int .i64 n, .int .i64 p] w (TbOut w (setT zs n p)) := by
  have H := Lib.hid h
  obtain ⟨A, m, c, rfl, N, hnc, hcm⟩ := h.row.form
  obtain ⟨w0, hw0, hb0, hz, hA, hR⟩ := tb_boxes w (.slice A m c)
  have HX0 := Lib.hid hA
  have HR0 := Lib.hid hR
  have HB0 := Lib.hid hb0
  have HW0 := Lib.hid hw0
  have HZ := Lib.hid hz
  have hn : m = zs.length := h.row.lenZ
  have HN := Lib.hid hn
  have HCK := Lib.hid (tcheck_any w0 _ zs (H.out.below hb0))
  unfold chkT at HCK
  have HIX := Lib.hid fun w1 (hb : Below w.heap.size w w1) => zindex_any w1 _ zs p (H.out.row.below hb) (by have := H.out.len; omega)
  have HPG := Lib.hid (ispage_any p)
  by_cases hok : tbOk zs
  · rw [if_pos hok] at HCK
    by_cases hn0 : n < 0
    · have hf : setT zs n p = ([], 2) := if_pos (.inr (.inl hn0))
      rw [hf]
      clear h hn hw0 hok hf hb0 hz hA hR
      go_enter Try.func8, Try.ntmps8
      go_wp2_with fail
      rw [HW0.out]
      have c1 := HX0.out.c0
      go_wp2_with fail
      refine HCK.out.mono ?_
      rintro e w1 ⟨rfl, hb1⟩
      have HX1 : Hid (TbBox w1 w.heap.size (.slice A m c)) := HX0.out.below hb1
      have HR1 : Hid (TbBox w1 (w.heap.size + 1) (.slice none 0 0)) := HR0.out.below hb1
      have HB1 : Hid (Below w.heap.size w w1) := HB0.out.trans (hb1.mono HB0.out.size)
      have HL1 : Hid (w.heap.size + 2 ≤ w1.heap.size) := HZ.out ▸ hb1.size
      clear hb1 c1
      have c1 := HX1.out.c0
      go_wp2_with (refine wpList_storeS HR1.out tbInfo rfl _ _ rfl rfl (ds := [.slice none 0 0]) rfl rfl (one_tb none 0 0) ?_; intro w2 hR2 hg2 hz2)
      refine ret_s2 hR2 Try.underlying24 tbInfo rfl rfl rfl _ rfl ?_
      exact ⟨_, rfl, RowO.nil _ _, HB1.out.grown hg2 HB1.out.size (fun k e => by cases e; omega)⟩
    · by_cases hn1 : 65536 ≤ n
      · have hf : setT zs n p = ([], 2) := if_pos (.inr (.inr (.inl hn1)))
        rw [hf]
        clear h hn hw0 hok hf hb0 hz hA hR
        go_enter Try.func8, Try.ntmps8
        go_wp2_with fail
        rw [HW0.out]
        have c1 := HX0.out.c0
        go_wp2_with fail
        refine HCK.out.mono ?_
        rintro e w1 ⟨rfl, hb1⟩
        have HX1 : Hid (TbBox w1 w.heap.size (.slice A m c)) := HX0.out.below hb1
        have HR1 : Hid (TbBox w1 (w.heap.size + 1) (.slice none 0 0)) := HR0.out.below hb1
        have HB1 : Hid (Below w.heap.size w w1) := HB0.out.trans (hb1.mono HB0.out.size)
        have HL1 : Hid (w.heap.size + 2 ≤ w1.heap.size) := HZ.out ▸ hb1.size
        clear hb1 c1
        have c1 := HX1.out.c0
        go_wp2_with (refine wpList_storeS HR1.out tbInfo rfl _ _ rfl rfl (ds := [.slice none 0 0]) rfl rfl (one_tb none 0 0) ?_; intro w2 hR2 hg2 hz2)
        refine ret_s2 hR2 Try.underlying24 tbInfo rfl rfl rfl _ rfl ?_
        exact ⟨_, rfl, RowO.nil _ _, HB1.out.grown hg2 HB1.out.size (fun k e => by cases e; omega)⟩
      · by_cases hp : pgOk p
        · rw [decide_eq_true hp] at HPG
          have hnn : 0 ≤ n := by omega
          have hnl : n < 65536 := by omega
          have hbad : ¬ (¬ tbOk zs ∨ n < 0 ∨ 65536 ≤ n ∨ ¬ pgOk p) := fun h => h.elim (fun h => h hok) (fun h => h.elim hn0 (fun h => h.elim hn1 (fun h => h hp)))
          by_cases hi : idxZ zs p < zs.length ∧ idxZ zs p ≠ n.toNat
          · have hf : setT zs n p = ([], 7) := by
              unfold setT
              rw [if_neg hbad, if_pos hi]
            have hx : ixT zs p = ((idxZ zs p : Nat) : Int) := if_pos hi.1
            rw [hf]
            rw [hx] at HIX
            have hij : (((idxZ zs p : Nat) : Int) != n) = true := by have := hi.2; simp; omega
            have hq0 : (0 : Int) ≤ ((idxZ zs p : Nat) : Int) := by omega
            generalize ((idxZ zs p : Nat) : Int) = q at *
            clear h hn hw0 hok hf hb0 hz hA hR hbad hi hx hp hn0 hn1
            go_enter Try.func8, Try.ntmps8
            go_wp2_with fail
            rw [HW0.out]
            have c1 := HX0.out.c0
            go_wp2_with fail
            refine HCK.out.mono ?_
            rintro e w1 ⟨rfl, hb1⟩
            have HX1 : Hid (TbBox w1 w.heap.size (.slice A m c)) := HX0.out.below hb1
            have HR1 : Hid (TbBox w1 (w.heap.size + 1) (.slice none 0 0)) := HR0.out.below hb1
            have HB1 : Hid (Below w.heap.size w w1) := HB0.out.trans (hb1.mono HB0.out.size)
            have HL1 : Hid (w.heap.size + 2 ≤ w1.heap.size) := HZ.out ▸ hb1.size
            clear hb1 c1
            have c1 := HX1.out.c0
            go_wp2_with fail
            refine (HPG.out w1).mono ?_
            rintro e w2 ⟨rfl, rfl⟩
            go_wp2_with fail
            refine (HIX.out w1 HB1.out).mono ?_
            rintro e w2 ⟨rfl, rfl⟩
            go_wp2_with (refine wpList_storeS HR1.out tbInfo rfl _ _ rfl rfl (ds := [.slice none 0 0]) rfl rfl (one_tb none 0 0) ?_; intro w2 hR2 hg2 hz2)
            refine ret_s2 hR2 Try.underlying24 tbInfo rfl rfl rfl _ rfl ?_
            exact ⟨_, rfl, RowO.nil _ _, HB1.out.grown hg2 HB1.out.size (fun k e => by cases e; omega)⟩
          · have hf : setT zs n p = (setL zs n.toNat p, 0) := by
              unfold setT
              rw [if_neg hbad, if_neg hi]
            rw [hf]
            unfold setL
            obtain ⟨i0, hi0, hz0, hz1, hz2⟩ := info_parts iinfo
            by_cases hx : idxZ zs p < zs.length
            · have hxj : ixT zs p = n := by
                unfold ixT
                rw [if_pos hx]
                have : idxZ zs p = n.toNat := Classical.byContradiction fun hne => hi ⟨hx, hne⟩
                omega
              rw [hxj] at HIX
              have hjm : n.toNat < zs.length := by
                have : idxZ zs p = n.toNat := Classical.byContradiction fun hne => hi ⟨hx, hne⟩
                omega
              obtain ⟨M, hM⟩ : ∃ M, m = M := ⟨m, rfl⟩
              have HMM : Hid (n.toNat < M ∧ m ≤ M ∧ M - zs.length = n.toNat + 1 - zs.length ∧ M = m) := ⟨by omega, by omega, by omega, hM.symm⟩
              have HM6 : Hid (M ≤ 65536) := by have := h.len; rw [Hid]; omega
              have hle : n + 1 ≤ (m : Int) := by omega
              have HNN : Hid (0 ≤ n ∧ m = zs.length) := ⟨hnn, hn⟩
              have hnM : n < (M : Int) := by omega
              clear h hn hw0 hok hf hb0 hz hA hR hbad hi hx hp hxj hjm hM hn0 hn1
              go_enter Try.func8, Try.ntmps8
              go_wp2_with fail
              rw [HW0.out]
              have c1 := HX0.out.c0
              go_wp2_with fail
              refine HCK.out.mono ?_
              rintro e w1 ⟨rfl, hb1⟩
              have HX1 : Hid (TbBox w1 w.heap.size (.slice A m c)) := HX0.out.below hb1
              have HR1 : Hid (TbBox w1 (w.heap.size + 1) (.slice none 0 0)) := HR0.out.below hb1
              have HB1 : Hid (Below w.heap.size w w1) := HB0.out.trans (hb1.mono HB0.out.size)
              have HL1 : Hid (w.heap.size + 2 ≤ w1.heap.size) := HZ.out ▸ hb1.size
              clear hb1 c1
              have c1 := HX1.out.c0
              go_wp2_with fail
              refine (HPG.out w1).mono ?_
              rintro e w2 ⟨rfl, rfl⟩
              go_wp2_with fail
              refine (HIX.out w1 HB1.out).mono ?_
              rintro e w2 ⟨rfl, rfl⟩
              go_wp2_with (first
                | (at_make; refine wpList_make_full _ rfl _ _ 22 rfl w1.heap.size 3 i0 _ 1 Try.underlying22 hi0 hz0 hz1 _ _ _ _ M rfl rfl (by have := HMM.out; omega) (by have := HMM.out; omega) (by rw [hz2]; have := HM6.out; omega) (by have := HM6.out; simp only [maxLen]; omega) (Nat.le_refl _) ?_; intro w2 hown2 hg2
                   have hO2 : Hid (OwnV w2 w1.heap.size 3 (.slice (some ⟨w1.heap.size, 0, none⟩) M M) (intC (List.replicate M 0))) := (intC_rep M) ▸ OwnV.made rfl hown2
                   have HX2 : Hid (TbBox w2 w.heap.size (.slice A m c)) := HX1.out.below (below_none hg2)
                   have HR2 : Hid (TbBox w2 (w.heap.size + 1) (.slice none 0 0)) := HR1.out.below (below_none hg2)
                   have HB2 : Hid (Below w.heap.size w w2) := HB1.out.trans ((below_none hg2).mono HB1.out.size)
                   clear hown2 hg2 c1
                   have c1 := HX2.out.c0)
                | (refine wpList_copyV rfl (.tmp 46) (.tmp 48) 22 22 rfl 3 Try.underlying22 intInfo1 rfl hO2.out (by rw [intC_len, List.length_replicate]) _ rfl (H.out.row.below HB2.out) (by rw [intC_len]; have := HMM.out; have := HN.out; omega) (intC_one zs) ?_; intro w3 hown3 hg3
                   have hO3 : Hid (OwnV w3 w1.heap.size 3 (.slice (some ⟨w1.heap.size, 0, none⟩) M M) (intC (zs ++ List.replicate (M - zs.length) 0))) := by
                     rw [intC_len, ← intC_drop, ← intC_app, List.drop_replicate] at hown3
                     exact hown3
                   have HR3 : Hid (TbBox w3 (w.heap.size + 1) (.slice none 0 0)) := HR2.out.grown hg3 (by have := HL1.out; omega)
                   have HB3 : Hid (Below w.heap.size w w3) := HB2.out.grown hg3 HB2.out.size (fun k e => by cases e; have := HL1.out; omega)
                   have HLM : Hid ((intC (zs ++ List.replicate (M - zs.length) 0)).length = M) := by rw [Hid, intC_len, List.length_append, List.length_replicate]; have := HMM.out; have := HN.out; omega
                   clear hown3 hg3 c1)
                | (refine wpList_put1 3 rfl (.tmp 53) (.tmp 52) rfl n.toNat (.int .i64 p) rfl rfl rfl intInfo1 _ (own_at hO3.out HLM.out (by have := HMM.out; omega)) (own_thaw hO3.out n.toNat) ?_; intro w4 hw4
                   have hg4 : w3.grownBy w4 (some w1.heap.size) := by rw [hw4]; exact grown_set w3 w1.heap.size n.toNat _
                   have hO4 : Hid (OwnV w4 w1.heap.size 3 (.slice (some ⟨w1.heap.size, 0, none⟩) M M) (intC ((zs ++ List.replicate (M - zs.length) 0).set n.toNat p))) := by rw [hw4, intC_set]; exact OwnV.set hO3.out HLM.out n.toNat (.int .i64 p)
                   have HR4 : Hid (TbBox w4 (w.heap.size + 1) (.slice none 0 0)) := HR3.out.grown hg4 (by have := HL1.out; omega)
                   have HB4 : Hid (Below w.heap.size w w4) := HB3.out.grown hg4 HB3.out.size (fun k e => by cases e; have := HL1.out; omega)
                   clear hw4 hg4)
                | (refine wpList_storeS HR4.out tbInfo rfl _ _ rfl rfl (ds := [.slice (some ⟨w1.heap.size, 0, none⟩) M M]) rfl rfl (one_tb _ _ _) ?_; intro w5 hR5 hg5 hz5))
              refine ret_s2 hR5 Try.underlying24 tbInfo rfl rfl rfl _ rfl ?_
              refine ⟨_, rfl, ?_, HB4.out.grown hg5 HB4.out.size (fun k e => by cases e; omega)⟩
              have hM : M - zs.length = n.toNat + 1 - zs.length := HMM.out.2.2.1
              have := hO4.out.rowO.grown hg5 (by have := HL1.out; omega)
              rw [hM] at this
              exact this.lower HB1.out.size
            · have hxj : ixT zs p = -1 := if_neg hx
              rw [hxj] at HIX
              by_cases hjm : n.toNat < zs.length
              · skip
                obtain ⟨M, hM⟩ : ∃ M, m = M := ⟨m, rfl⟩
                have HMM : Hid (n.toNat < M ∧ m ≤ M ∧ M - zs.length = n.toNat + 1 - zs.length ∧ M = m) := ⟨by omega, by omega, by omega, hM.symm⟩
                have HM6 : Hid (M ≤ 65536) := by have := h.len; rw [Hid]; omega
                have hle : n + 1 ≤ (m : Int) := by omega
                have HNN : Hid (0 ≤ n ∧ m = zs.length) := ⟨hnn, hn⟩
                have hnM : n < (M : Int) := by omega
                clear h hn hw0 hok hf hb0 hz hA hR hbad hi hx hp hxj hjm hM hn0 hn1
                go_enter Try.func8, Try.ntmps8
                go_wp2_with fail
                rw [HW0.out]
                have c1 := HX0.out.c0
                go_wp2_with fail
                refine HCK.out.mono ?_
                rintro e w1 ⟨rfl, hb1⟩
                have HX1 : Hid (TbBox w1 w.heap.size (.slice A m c)) := HX0.out.below hb1
                have HR1 : Hid (TbBox w1 (w.heap.size + 1) (.slice none 0 0)) := HR0.out.below hb1
                have HB1 : Hid (Below w.heap.size w w1) := HB0.out.trans (hb1.mono HB0.out.size)
                have HL1 : Hid (w.heap.size + 2 ≤ w1.heap.size) := HZ.out ▸ hb1.size
                clear hb1 c1
                have c1 := HX1.out.c0
                go_wp2_with fail
                refine (HPG.out w1).mono ?_
                rintro e w2 ⟨rfl, rfl⟩
                go_wp2_with fail
                refine (HIX.out w1 HB1.out).mono ?_
                rintro e w2 ⟨rfl, rfl⟩
                go_wp2_with (first
                  | (at_make; refine wpList_make_full _ rfl _ _ 22 rfl w1.heap.size 3 i0 _ 1 Try.underlying22 hi0 hz0 hz1 _ _ _ _ M rfl rfl (by have := HMM.out; omega) (by have := HMM.out; omega) (by rw [hz2]; have := HM6.out; omega) (by have := HM6.out; simp only [maxLen]; omega) (Nat.le_refl _) ?_; intro w2 hown2 hg2
                     have hO2 : Hid (OwnV w2 w1.heap.size 3 (.slice (some ⟨w1.heap.size, 0, none⟩) M M) (intC (List.replicate M 0))) := (intC_rep M) ▸ OwnV.made rfl hown2
                     have HX2 : Hid (TbBox w2 w.heap.size (.slice A m c)) := HX1.out.below (below_none hg2)
                     have HR2 : Hid (TbBox w2 (w.heap.size + 1) (.slice none 0 0)) := HR1.out.below (below_none hg2)
                     have HB2 : Hid (Below w.heap.size w w2) := HB1.out.trans ((below_none hg2).mono HB1.out.size)
                     clear hown2 hg2 c1
                     have c1 := HX2.out.c0)
                  | (refine wpList_copyV rfl (.tmp 46) (.tmp 48) 22 22 rfl 3 Try.underlying22 intInfo1 rfl hO2.out (by rw [intC_len, List.length_replicate]) _ rfl (H.out.row.below HB2.out) (by rw [intC_len]; have := HMM.out; have := HN.out; omega) (intC_one zs) ?_; intro w3 hown3 hg3
                     have hO3 : Hid (OwnV w3 w1.heap.size 3 (.slice (some ⟨w1.heap.size, 0, none⟩) M M) (intC (zs ++ List.replicate (M - zs.length) 0))) := by
                       rw [intC_len, ← intC_drop, ← intC_app, List.drop_replicate] at hown3
                       exact hown3
                     have HR3 : Hid (TbBox w3 (w.heap.size + 1) (.slice none 0 0)) := HR2.out.grown hg3 (by have := HL1.out; omega)
                     have HB3 : Hid (Below w.heap.size w w3) := HB2.out.grown hg3 HB2.out.size (fun k e => by cases e; have := HL1.out; omega)
                     have HLM : Hid ((intC (zs ++ List.replicate (M - zs.length) 0)).length = M) := by rw [Hid, intC_len, List.length_append, List.length_replicate]; have := HMM.out; have := HN.out; omega
                     clear hown3 hg3 c1)
                  | (refine wpList_put1 3 rfl (.tmp 53) (.tmp 52) rfl n.toNat (.int .i64 p) rfl rfl rfl intInfo1 _ (own_at hO3.out HLM.out (by have := HMM.out; omega)) (own_thaw hO3.out n.toNat) ?_; intro w4 hw4
                     have hg4 : w3.grownBy w4 (some w1.heap.size) := by rw [hw4]; exact grown_set w3 w1.heap.size n.toNat _
                     have hO4 : Hid (OwnV w4 w1.heap.size 3 (.slice (some ⟨w1.heap.size, 0, none⟩) M M) (intC ((zs ++ List.replicate (M - zs.length) 0).set n.toNat p))) := by rw [hw4, intC_set]; exact OwnV.set hO3.out HLM.out n.toNat (.int .i64 p)
                     have HR4 : Hid (TbBox w4 (w.heap.size + 1) (.slice none 0 0)) := HR3.out.grown hg4 (by have := HL1.out; omega)
                     have HB4 : Hid (Below w.heap.size w w4) := HB3.out.grown hg4 HB3.out.size (fun k e => by cases e; have := HL1.out; omega)
                     clear hw4 hg4)
                  | (refine wpList_storeS HR4.out tbInfo rfl _ _ rfl rfl (ds := [.slice (some ⟨w1.heap.size, 0, none⟩) M M]) rfl rfl (one_tb _ _ _) ?_; intro w5 hR5 hg5 hz5))
                refine ret_s2 hR5 Try.underlying24 tbInfo rfl rfl rfl _ rfl ?_
                refine ⟨_, rfl, ?_, HB4.out.grown hg5 HB4.out.size (fun k e => by cases e; omega)⟩
                have hM : M - zs.length = n.toNat + 1 - zs.length := HMM.out.2.2.1
                have := hO4.out.rowO.grown hg5 (by have := HL1.out; omega)
                rw [hM] at this
                exact this.lower HB1.out.size
              · skip
                obtain ⟨M, hM⟩ : ∃ M, (n.toNat + 1) = M := ⟨_, rfl⟩
                have HMM : Hid (n.toNat < M ∧ m ≤ M ∧ M - zs.length = n.toNat + 1 - zs.length ∧ M = (n.toNat + 1)) := ⟨by omega, by omega, by omega, hM.symm⟩
                have HM6 : Hid (M ≤ 65536) := by have := h.len; rw [Hid]; omega
                have hle : (m : Int) < n + 1 := by omega
                have HNN : Hid (0 ≤ n ∧ m = zs.length) := ⟨hnn, hn⟩
                have hnM : n < (M : Int) := by omega
                clear h hn hw0 hok hf hb0 hz hA hR hbad hi hx hp hxj hjm hM hn0 hn1
                go_enter Try.func8, Try.ntmps8
                go_wp2_with fail
                rw [HW0.out]
                have c1 := HX0.out.c0
                go_wp2_with fail
                refine HCK.out.mono ?_
                rintro e w1 ⟨rfl, hb1⟩
                have HX1 : Hid (TbBox w1 w.heap.size (.slice A m c)) := HX0.out.below hb1
                have HR1 : Hid (TbBox w1 (w.heap.size + 1) (.slice none 0 0)) := HR0.out.below hb1
                have HB1 : Hid (Below w.heap.size w w1) := HB0.out.trans (hb1.mono HB0.out.size)
                have HL1 : Hid (w.heap.size + 2 ≤ w1.heap.size) := HZ.out ▸ hb1.size
                clear hb1 c1
                have c1 := HX1.out.c0
                go_wp2_with fail
                refine (HPG.out w1).mono ?_
                rintro e w2 ⟨rfl, rfl⟩
                go_wp2_with fail
                refine (HIX.out w1 HB1.out).mono ?_
                rintro e w2 ⟨rfl, rfl⟩
                go_wp2_with (first
                  | (at_make; refine wpList_make_full _ rfl _ _ 22 rfl w1.heap.size 3 i0 _ 1 Try.underlying22 hi0 hz0 hz1 _ _ _ _ M rfl rfl (by have := HMM.out; omega) (by have := HMM.out; omega) (by rw [hz2]; have := HM6.out; omega) (by have := HM6.out; simp only [maxLen]; omega) (Nat.le_refl _) ?_; intro w2 hown2 hg2
                     have hO2 : Hid (OwnV w2 w1.heap.size 3 (.slice (some ⟨w1.heap.size, 0, none⟩) M M) (intC (List.replicate M 0))) := (intC_rep M) ▸ OwnV.made rfl hown2
                     have HX2 : Hid (TbBox w2 w.heap.size (.slice A m c)) := HX1.out.below (below_none hg2)
                     have HR2 : Hid (TbBox w2 (w.heap.size + 1) (.slice none 0 0)) := HR1.out.below (below_none hg2)
                     have HB2 : Hid (Below w.heap.size w w2) := HB1.out.trans ((below_none hg2).mono HB1.out.size)
                     clear hown2 hg2 c1
                     have c1 := HX2.out.c0)
                  | (refine wpList_copyV rfl (.tmp 46) (.tmp 48) 22 22 rfl 3 Try.underlying22 intInfo1 rfl hO2.out (by rw [intC_len, List.length_replicate]) _ rfl (H.out.row.below HB2.out) (by rw [intC_len]; have := HMM.out; have := HN.out; omega) (intC_one zs) ?_; intro w3 hown3 hg3
                     have hO3 : Hid (OwnV w3 w1.heap.size 3 (.slice (some ⟨w1.heap.size, 0, none⟩) M M) (intC (zs ++ List.replicate (M - zs.length) 0))) := by
                       rw [intC_len, ← intC_drop, ← intC_app, List.drop_replicate] at hown3
                       exact hown3
                     have HR3 : Hid (TbBox w3 (w.heap.size + 1) (.slice none 0 0)) := HR2.out.grown hg3 (by have := HL1.out; omega)
                     have HB3 : Hid (Below w.heap.size w w3) := HB2.out.grown hg3 HB2.out.size (fun k e => by cases e; have := HL1.out; omega)
                     have HLM : Hid ((intC (zs ++ List.replicate (M - zs.length) 0)).length = M) := by rw [Hid, intC_len, List.length_append, List.length_replicate]; have := HMM.out; have := HN.out; omega
                     clear hown3 hg3 c1)
                  | (refine wpList_put1 3 rfl (.tmp 53) (.tmp 52) rfl n.toNat (.int .i64 p) rfl rfl rfl intInfo1 _ (own_at hO3.out HLM.out (by have := HMM.out; omega)) (own_thaw hO3.out n.toNat) ?_; intro w4 hw4
                     have hg4 : w3.grownBy w4 (some w1.heap.size) := by rw [hw4]; exact grown_set w3 w1.heap.size n.toNat _
                     have hO4 : Hid (OwnV w4 w1.heap.size 3 (.slice (some ⟨w1.heap.size, 0, none⟩) M M) (intC ((zs ++ List.replicate (M - zs.length) 0).set n.toNat p))) := by rw [hw4, intC_set]; exact OwnV.set hO3.out HLM.out n.toNat (.int .i64 p)
                     have HR4 : Hid (TbBox w4 (w.heap.size + 1) (.slice none 0 0)) := HR3.out.grown hg4 (by have := HL1.out; omega)
                     have HB4 : Hid (Below w.heap.size w w4) := HB3.out.grown hg4 HB3.out.size (fun k e => by cases e; have := HL1.out; omega)
                     clear hw4 hg4)
                  | (refine wpList_storeS HR4.out tbInfo rfl _ _ rfl rfl (ds := [.slice (some ⟨w1.heap.size, 0, none⟩) M M]) rfl rfl (one_tb _ _ _) ?_; intro w5 hR5 hg5 hz5))
                refine ret_s2 hR5 Try.underlying24 tbInfo rfl rfl rfl _ rfl ?_
                refine ⟨_, rfl, ?_, HB4.out.grown hg5 HB4.out.size (fun k e => by cases e; omega)⟩
                have hM : M - zs.length = n.toNat + 1 - zs.length := HMM.out.2.2.1
                have := hO4.out.rowO.grown hg5 (by have := HL1.out; omega)
                rw [hM] at this
                exact this.lower HB1.out.size
        · rw [decide_eq_false hp] at HPG
          have hf : setT zs n p = ([], 2) := if_pos (.inr (.inr (.inr hp)))
          rw [hf]
          clear h hn hw0 hok hf hb0 hz hA hR hp
          go_enter Try.func8, Try.ntmps8
          go_wp2_with fail
          rw [HW0.out]
          have c1 := HX0.out.c0
          go_wp2_with fail
          refine HCK.out.mono ?_
          rintro e w1 ⟨rfl, hb1⟩
          have HX1 : Hid (TbBox w1 w.heap.size (.slice A m c)) := HX0.out.below hb1
          have HR1 : Hid (TbBox w1 (w.heap.size + 1) (.slice none 0 0)) := HR0.out.below hb1
          have HB1 : Hid (Below w.heap.size w w1) := HB0.out.trans (hb1.mono HB0.out.size)
          have HL1 : Hid (w.heap.size + 2 ≤ w1.heap.size) := HZ.out ▸ hb1.size
          clear hb1 c1
          have c1 := HX1.out.c0
          go_wp2_with fail
          refine (HPG.out w1).mono ?_
          rintro e w2 ⟨rfl, rfl⟩
          go_wp2_with (refine wpList_storeS HR1.out tbInfo rfl _ _ rfl rfl (ds := [.slice none 0 0]) rfl rfl (one_tb none 0 0) ?_; intro w2 hR2 hg2 hz2)
          refine ret_s2 hR2 Try.underlying24 tbInfo rfl rfl rfl _ rfl ?_
          exact ⟨_, rfl, RowO.nil _ _, HB1.out.grown hg2 HB1.out.size (fun k e => by cases e; omega)⟩
  · rw [if_neg hok] at HCK
    have hf : setT zs n p = ([], 2) := if_pos (.inl hok)
    rw [hf]
    clear h hn hw0 hok hf hb0 hz hA hR
    go_enter Try.func8, Try.ntmps8
    go_wp2_with fail
    rw [HW0.out]
    have c1 := HX0.out.c0
    go_wp2_with fail
    refine HCK.out.mono ?_
    rintro e w1 ⟨rfl, hb1⟩
    have HX1 : Hid (TbBox w1 w.heap.size (.slice A m c)) := HX0.out.below hb1
    have HR1 : Hid (TbBox w1 (w.heap.size + 1) (.slice none 0 0)) := HR0.out.below hb1
    have HB1 : Hid (Below w.heap.size w w1) := HB0.out.trans (hb1.mono HB0.out.size)
    have HL1 : Hid (w.heap.size + 2 ≤ w1.heap.size) := HZ.out ▸ hb1.size
    clear hb1 c1
    have c1 := HX1.out.c0
    go_wp2_with (refine wpList_storeS HR1.out tbInfo rfl _ _ rfl rfl (ds := [.slice none 0 0]) rfl rfl (one_tb none 0 0) ?_; intro w2 hR2 hg2 hz2)
    refine ret_s2 hR2 Try.underlying24 tbInfo rfl rfl rfl _ rfl ?_
    exact ⟨_, rfl, RowO.nil _ _, HB1.out.grown hg2 HB1.out.size (fun k e => by cases e; omega)⟩

/-! Clear. -/
set_option maxHeartbeats 4000000 in
set_option maxRecDepth 100000 in
theorem tclear_any (w : World) (v : Value) (zs : List Int) (n : Int) (h : TbIn w v zs) :
    Calls Try.prog 9 #[.agg #[v], .int .i64 n] w (TbOut w (clearT zs n)) := by
  have H := Lib.hid h
  obtain ⟨A, m, c, rfl, N, hnc, hcm⟩ := h.row.form
  obtain ⟨w0, hw0, hb0, hz, hA, hR⟩ := tb_boxes w (.slice A m c)
  have HX0 := Lib.hid hA
  have HR0 := Lib.hid hR
  have HB0 := Lib.hid hb0
  have HW0 := Lib.hid hw0
  have HZ := Lib.hid hz
  have hn : m = zs.length := h.row.lenZ
  have HN := Lib.hid hn
  have HCK := Lib.hid (tcheck_any w0 _ zs (H.out.below hb0))
  unfold chkT at HCK
  have HST := Lib.hid fun w1 (hb : Below w.heap.size w w1) => tstands_any w1 _ zs n (H.out.below hb)
  by_cases hok : tbOk zs
  · rw [if_pos hok] at HCK
    have hg : getT zs n = if 0 ≤ n then atZ zs n.toNat else 0 := by
      unfold getT
      by_cases h0 : 0 ≤ n
      · rw [if_pos ⟨hok, h0⟩, if_pos h0]
      · rw [if_neg (fun h => h0 h.2), if_neg h0]
    by_cases hs : 0 ≤ n ∧ atZ zs n.toNat ≠ 0
    · rw [decide_eq_true hs] at HST
      have hf : clearT zs n = (trimL (zs.set n.toNat 0), 0) := by
        unfold clearT
        rw [if_neg (fun h => h hok), hg, if_pos hs.1, if_neg hs.2]
      rw [hf]
      have hnl := atZ_in hs.2
      have HCL := Lib.hid fun w1 (hb : Below w.heap.size w w1) => zclone_any w1 _ zs (H.out.row.below hb) (by have := H.out.len; omega)
      have hnn : 0 ≤ n := hs.1
      have hnM : n < (m : Int) := by omega
      have HNL : Hid (n.toNat < m) := by rw [Hid]; omega
      have HLZ : Hid (zs.length ≤ 65536) := h.len
      clear h hn hw0 hok hf hb0 hz hA hR hs hg hnl
      go_enter Try.func9, Try.ntmps9
      go_wp2_with fail
      rw [HW0.out]
      have c1 := HX0.out.c0
      go_wp2_with fail
      refine HCK.out.mono ?_
      rintro e w1 ⟨rfl, hb1⟩
      have HX1 : Hid (TbBox w1 w.heap.size (.slice A m c)) := HX0.out.below hb1
      have HR1 : Hid (TbBox w1 (w.heap.size + 1) (.slice none 0 0)) := HR0.out.below hb1
      have HB1 : Hid (Below w.heap.size w w1) := HB0.out.trans (hb1.mono HB0.out.size)
      have HL1 : Hid (w.heap.size + 2 ≤ w1.heap.size) := HZ.out ▸ hb1.size
      clear hb1 c1
      have c1 := HX1.out.c0
      go_wp2_with fail
      refine (HST.out w1 HB1.out).mono ?_
      rintro e w2 ⟨rfl, hb2⟩
      have HX2 : Hid (TbBox w2 w.heap.size (.slice A m c)) := HX1.out.below hb2
      have HR2 : Hid (TbBox w2 (w.heap.size + 1) (.slice none 0 0)) := HR1.out.below hb2
      have HB2 : Hid (Below w.heap.size w w2) := HB1.out.trans (hb2.mono HB1.out.size)
      have HL2 : Hid (w.heap.size + 2 ≤ w2.heap.size) := Nat.le_trans HL1.out hb2.size
      clear hb2 c1
      have c1 := HX2.out.c0
      go_wp2_with fail
      refine (HCL.out w2 HB2.out).mono ?_
      rintro e w3 ⟨x3, rfl, hx3, hb3⟩
      obtain ⟨g, c3, rfl, hBg, hgl, hc3, hc3', _, _⟩ := OwnV.form hx3 (by rw [intC_len]; have := HNL.out; have := HN.out; omega)
      have hml : (intC zs).length = m := by rw [intC_len]; exact HN.out.symm
      rw [hml] at hx3 hc3 ⊢
      have HO3 := Lib.hid hx3
      have HML := Lib.hid hml
      have HR3 : Hid (TbBox w3 (w.heap.size + 1) (.slice none 0 0)) := HR2.out.below hb3
      have HB3 : Hid (Below w.heap.size w w3) := HB2.out.trans (hb3.mono HB2.out.size)
      have HBG : Hid (w2.heap.size ≤ g) := hBg
      clear hx3 hb3 c1 hml hBg hgl
      go_wp2_with (first
        | (refine wpList_put1 3 rfl (.tmp 24) (.const (.int .i64 0)) rfl n.toNat (.int .i64 0) rfl rfl rfl intInfo1 _ (own_at HO3.out HML.out HNL.out) (own_thaw HO3.out n.toNat) ?_; intro w4 hw4
           have hg4 : w3.grownBy w4 (some g) := by rw [hw4]; exact grown_set w3 g n.toNat _
           have HO4 : Hid (OwnV w4 w2.heap.size 3 (.slice (some ⟨g, 0, none⟩) m c3) (intC (zs.set n.toNat 0))) := by rw [hw4, intC_set]; exact OwnV.set HO3.out HML.out n.toNat (.int .i64 0)
           have HR4 : Hid (TbBox w4 (w.heap.size + 1) (.slice none 0 0)) := HR3.out.grown hg4 (by have := HL2.out; have := HBG.out; omega)
           have HB4 : Hid (Below w.heap.size w w4) := HB3.out.grown hg4 HB3.out.size (fun k e => by cases e; have := HL2.out; have := HBG.out; omega)
           clear hw4 hg4))
      refine (ttrim_any _ _ (zs.set n.toNat 0) HO4.out.rowz (by rw [List.length_set]; have := HLZ.out; omega)).mono ?_
      rintro e w5 ⟨x5, rfl, rfl, hx5, hown5, A5, c5, rfl⟩
      have HX5 : Hid (RowO w4 w2.heap.size (.slice A5 (trimL (zs.set n.toNat 0)).length c5) (trimL (zs.set n.toNat 0))) := ⟨hx5, fun k hk => HO4.out.rowO.2 k (hown5 k hk)⟩
      generalize (trimL (zs.set n.toNat 0)).length = q5 at *
      clear hx5 hown5
      go_wp2_with (refine wpList_storeS HR4.out tbInfo rfl _ _ rfl rfl (ds := [.slice A5 q5 c5]) rfl rfl (one_tb _ _ _) ?_; intro w6 hR6 hg6 hz6)
      refine ret_s2 hR6 Try.underlying24 tbInfo rfl rfl rfl _ rfl ?_
      exact ⟨_, rfl, (HX5.out.grown hg6 (by have := HL2.out; omega)).lower HB2.out.size, HB4.out.grown hg6 HB4.out.size (fun k e => by cases e; omega)⟩
    · rw [decide_eq_false hs] at HST
      have hf : clearT zs n = ([], 6) := by
        unfold clearT
        rw [if_neg (fun h => h hok), hg]
        rw [if_pos]
        split
        · exact Classical.byContradiction fun hne => hs ⟨by assumption, hne⟩
        · rfl
      rw [hf]
      clear h hn hw0 hok hf hb0 hz hA hR hs hg
      go_enter Try.func9, Try.ntmps9
      go_wp2_with fail
      rw [HW0.out]
      have c1 := HX0.out.c0
      go_wp2_with fail
      refine HCK.out.mono ?_
      rintro e w1 ⟨rfl, hb1⟩
      have HX1 : Hid (TbBox w1 w.heap.size (.slice A m c)) := HX0.out.below hb1
      have HR1 : Hid (TbBox w1 (w.heap.size + 1) (.slice none 0 0)) := HR0.out.below hb1
      have HB1 : Hid (Below w.heap.size w w1) := HB0.out.trans (hb1.mono HB0.out.size)
      have HL1 : Hid (w.heap.size + 2 ≤ w1.heap.size) := HZ.out ▸ hb1.size
      clear hb1 c1
      have c1 := HX1.out.c0
      go_wp2_with fail
      refine (HST.out w1 HB1.out).mono ?_
      rintro e w2 ⟨rfl, hb2⟩
      have HR2 : Hid (TbBox w2 (w.heap.size + 1) (.slice none 0 0)) := HR1.out.below hb2
      have HB2 : Hid (Below w.heap.size w w2) := HB1.out.trans (hb2.mono HB1.out.size)
      clear hb2 c1
      go_wp2_with (refine wpList_storeS HR2.out tbInfo rfl _ _ rfl rfl (ds := [.slice none 0 0]) rfl rfl (one_tb none 0 0) ?_; intro w3 hR3 hg3 hz3)
      refine ret_s2 hR3 Try.underlying24 tbInfo rfl rfl rfl _ rfl ?_
      exact ⟨_, rfl, RowO.nil _ _, HB2.out.grown hg3 HB2.out.size (fun k e => by cases e; omega)⟩
  · rw [if_neg hok] at HCK
    have hf : clearT zs n = ([], 2) := if_pos hok
    rw [hf]
    clear h hn hw0 hok hf hb0 hz hA hR
    go_enter Try.func9, Try.ntmps9
    go_wp2_with fail
    rw [HW0.out]
    have c1 := HX0.out.c0
    go_wp2_with fail
    refine HCK.out.mono ?_
    rintro e w1 ⟨rfl, hb1⟩
    have HX1 : Hid (TbBox w1 w.heap.size (.slice A m c)) := HX0.out.below hb1
    have HR1 : Hid (TbBox w1 (w.heap.size + 1) (.slice none 0 0)) := HR0.out.below hb1
    have HB1 : Hid (Below w.heap.size w w1) := HB0.out.trans (hb1.mono HB0.out.size)
    have HL1 : Hid (w.heap.size + 2 ≤ w1.heap.size) := HZ.out ▸ hb1.size
    clear hb1 c1
    have c1 := HX1.out.c0
    go_wp2_with (refine wpList_storeS HR1.out tbInfo rfl _ _ rfl rfl (ds := [.slice none 0 0]) rfl rfl (one_tb none 0 0) ?_; intro w2 hR2 hg2 hz2)
    refine ret_s2 hR2 Try.underlying24 tbInfo rfl rfl rfl _ rfl ?_
    exact ⟨_, rfl, RowO.nil _ _, HB1.out.grown hg2 HB1.out.size (fun k e => by cases e; omega)⟩
end Go.Proofs.Ythakkaffjnkhgaa
