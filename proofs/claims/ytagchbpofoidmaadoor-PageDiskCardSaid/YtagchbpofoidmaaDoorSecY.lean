/-
  The document's disk (tallymanref04): Write by its contract. Conditions: none but that the disk lies there, and what is handed in apart from it.
-/
import Derived.Test.YtagchbpofoidmaaDoorSecX
import Derived.Test.YtagchbpofoidmaaDoorSecR
namespace Go.Proofs.YtagchbpofoidmaaDoor
open Go.RowKit Go.Maps
set_option maxRecDepth 100000

/-- A row of the cache set anew, in its place. -/
theorem put_at {C : Cch} (hd : (keysC C).Nodup) {j : Nat} (hj : j < C.length) (l : List UInt8) : putC C C[j].1 l = C.set j (C[j].1, l) := by
  induction C generalizing j with
  | nil => simp at hj
  | cons y C ih =>
    obtain ⟨a, z⟩ := y
    have hd' : a ∉ keysC C ∧ (keysC C).Nodup := List.nodup_cons.1 hd
    cases j with
    | zero => simp [putC]
    | succ j =>
      have hj' : j < C.length := by simpa using hj
      have hmem : C[j].1 ∈ keysC C := List.mem_map_of_mem (List.getElem_mem hj')
      show putC ((a, z) :: C) C[j].1 l = (a, z) :: C.set j (C[j].1, l)
      unfold putC
      rw [if_neg (fun e : a = C[j].1 => hd'.1 (e ▸ hmem)), ih hd'.2 hj']
theorem RefAt.setRow {w : World} {g ib ic : Nat} {s : St} {vn : Value} {vs : List Value} {cb cc j : Nat} {v : Value} {l : List UInt8} (h : RefAt w g s ib ic vn (.slice (some ⟨cb, 0, none⟩) s.C.length cc) vs) (ok : OkSt s) (hj : j < s.C.length) (hv : Own w 0 5 v l) (hne : v.ownBlock ≠ some ib) :
    RefAt (w.setCell ⟨cb, j, none⟩ v) g (writeS s s.C[j].1 l) ib ic vn (.slice (some ⟨cb, 0, none⟩) s.C.length cc) (vs.set j v) := by
  have hC : (writeS s s.C[j].1 l).C = s.C.set j (s.C[j].1, l) := put_at ok.once hj l
  have hkeys : keysC (writeS s s.C[j].1 l).C = keysC s.C := put_has l (lookC_at ok.once j hj)
  have hlen : (writeS s s.C[j].1 l).C.length = s.C.length := by rw [hC, List.length_set]
  have hcb := h.c_g (k := cb) rfl
  have hg : ∀ k, k ≠ cb → (w.setCell ⟨cb, j, none⟩ v).heap[k]? = w.heap[k]? := fun k hk => heap_cell_other hk
  have hvl := h.len
  refine ⟨(hg g (Ne.symm hcb.1)).trans h.obj, ownsRow_same h.img (fun k hk => hg k ?_), ?_, ?_, fun i hi hiv => ?_⟩
  · simp [Value.ownBlock] at hk
    exact hk ▸ Ne.symm hcb.2
  · rw [hkeys, hlen]
    exact ownsRow_same h.ord (fun k hk => hg k (fun e => h.c_n (k := cb) rfl (e ▸ hk)))
  · rw [hlen]
    exact (h.rows.stored j v).1
  · have hi' : i < s.C.length := by rw [hlen] at hi; exact hi
    have hiv' : i < vs.length := by omega
    obtain ⟨cur, hc⟩ := ownsRow_block h.rows (k := cb) rfl
    by_cases e : i = j
    · subst e
      have e1 : (vs.set i v)[i] = v := by simp
      have e2 : (writeS s s.C[i].1 l).C[i].2 = l := by simp [hC]
      rw [e1, e2]
      refine ⟨ownsRow_same hv (fun k hk => hg k ?_), hne⟩
      obtain ⟨cur', hc'⟩ := ownsRow_block hv hk
      exact tag_ne hc' hc (by decide)
    · have e1 : (vs.set j v)[i] = vs[i] := by simp [Ne.symm e]
      have e2 : (writeS s s.C[j].1 l).C[i].2 = s.C[i].2 := by simp [hC, Ne.symm e]
      rw [e1, e2]
      refine ⟨ownsRow_same (h.each i hi' hiv').1 (fun k hk => hg k ?_), (h.each i hi' hiv').2⟩
      rintro rfl
      exact (h.r_tag hi' hiv' hk).2.2.2 rfl

theorem look_none {C : Cch} {n : Nat} (h : ∀ j (hj : j < C.length), C[j].1 ≠ n) : lookC C n = none := by
  cases e : lookC C n with
  | none => rfl
  | some r =>
    exfalso
    induction C with
    | nil => cases e
    | cons y C ih =>
      unfold lookC at e
      have h0 : y.1 ≠ n := h 0 (by simp)
      rw [if_neg h0] at e
      exact ih (fun j hj => h (j + 1) (by simpa using hj)) e
theorem rwrite_bad (w : World) (S : Nat → Prop) (g : Nat) (s : St) (x : Int) (v : Value) (l : List UInt8) (h : Ref w S g s) (hv : Byt w v l) (hx : ¬ ((0 ≤ x ∧ x < ((secs s : Nat) : Int)) ∧ l.length = 512)) :
    Calls Tryd.prog 58 #[.pointer (some ⟨g, 0, none⟩), .int .i64 x, v] w (RDone w S g (writeR s x l)) := by
  have HS := Lib.hid (rsectors_is w S g s h)
  have H := Lib.hid h
  have HR : Hid (writeR s x l = (2, s)) := by rw [Hid]; unfold writeR; rw [if_neg hx]
  obtain ⟨A, n, c, rfl, N, hnc, hcm⟩ := hv.form
  clear h hv
  by_cases h0 : x < 0
  · clear hx
    go_enter Tryd.func58, Tryd.ntmps58
    go_wp2_with fail
    go_ret
    rw [HR.out]
    exact ⟨rfl, H.out.more (Nat.le_refl _) H.out.lt, Trn.refl _ _⟩
  · by_cases h1 : ((secs s : Nat) : Int) ≤ x
    · clear hx
      generalize secs s = sec at *
      go_enter Tryd.func58, Tryd.ntmps58
      go_wp2_with fail
      refine HS.out.mono ?_
      rintro e w1 ⟨rfl, rfl⟩
      go_wp2_with fail
      go_ret
      rw [HR.out]
      exact ⟨rfl, H.out.more (Nat.le_refl _) H.out.lt, Trn.refl _ _⟩
    · have hl : ((n : Int) == 512) = false := by have := N.out; simp; omega
      have hl2 : ((n : Int) != 512) = true := by simp only [bne, hl]; rfl
      clear hx
      generalize secs s = sec at *
      go_enter Tryd.func58, Tryd.ntmps58
      go_wp2_with fail
      refine HS.out.mono ?_
      rintro e w1 ⟨rfl, rfl⟩
      go_wp2_with fail
      go_ret
      rw [HR.out]
      exact ⟨rfl, H.out.more (Nat.le_refl _) H.out.lt, Trn.refl _ _⟩
set_option maxRecDepth 100000 in
set_option maxHeartbeats 4000000 in
theorem rwrite_ok (w : World) (S : Nat → Prop) (g : Nat) (s : St) (n : Nat) (v : Value) (l : List UInt8) (h : Ref w S g s) (hv : Byt w v l) (hne : ∀ k, v.ownBlock = some k → ¬ S k) (hn : n < secs s) (hl : l.length = 512) :
    Calls Tryd.prog 58 #[.pointer (some ⟨g, 0, none⟩), .int .i64 (n : Int), v] w (RDone w S g (writeR s (n : Int) l)) := by
  obtain ⟨i0, hi0, hz0, hz1, hz2⟩ := info_parts uinfo
  have HS := Lib.hid (rsectors_is w S g s h)
  have HF := Lib.hid (rfails_is w S g s h)
  have HLT := Lib.hid h.lt
  have HV := Lib.hid hv
  have HNE := Lib.hid hne
  obtain ⟨A, q, c, rfl, N, hnc, hcm⟩ := hv.form
  obtain rfl : q = 512 := N.out.trans hl
  have h1 : ¬ ((secs s : Nat) : Int) ≤ (n : Int) := by omega
  have h0 : ¬ (n : Int) < 0 := by omega
  have HLL := Lib.hid hl
  have HN := Lib.hid hn
  unfold RFailed at HF
  clear h hv hne N
  cases hbl : blows s.F
  · have HR : Hid (writeR s (n : Int) l = (0, writeS (tick s) n l)) := by
      rw [Hid]; unfold writeR; rw [if_pos ⟨⟨by omega, by omega⟩, hl⟩, hbl]; rfl
    rw [hbl] at HF
    have HSEC : Hid (secs (tick s) = secs s) := rfl
    clear hbl hn hl
    generalize secs s = sec at *
    go_enter Tryd.func58, Tryd.ntmps58
    go_wp2_with fail
    refine HS.out.mono ?_
    rintro e w1 ⟨rfl, rfl⟩
    go_wp2_with fail
    refine HF.out.mono ?_
    rintro e w1 ⟨rfl, hd1, ht1, hs1⟩
    have HD1 := Lib.hid hd1
    have HT1 := Lib.hid ht1
    have HS1 := Lib.hid hs1
    have HE := Lib.hid (Own.empty w1)
    have HV1 := Lib.hid (HV.out.trn ht1 HNE.out)
    clear hd1 ht1 hs1 HF HS
    generalize tick s = s at *
    go_wp2_with (at_builtin; refine wpList_app _ rfl (.tmp 24) (.tmp 25) _ rfl w1.heap.size 5 i0 _ Tryd.underlying22 hi0 hz0 hz1 hz2 rfl _ [] rfl HE.out _ l rfl (HV1.out.alloc _) (by have := HLL.out; simp; omega) (by simp) ?_; intro v2 w2 hown2 hg2 hat2; have HB2 := Lib.hid (below_own (below_new w1 _) (by simp) HE.out hg2); have HO2 := Lib.hid hown2; clear hown2 hg2 hat2)
    have HD2 := Lib.hid (HD1.out.below HB2.out)
    have hx2 : Own w2 w1.heap.size 5 v2 l := by have := HO2.out; rw [List.nil_append] at this; exact this
    have HX2 := Lib.hid hx2
    obtain ⟨Av, nv, cv, rfl, Nv, _, _⟩ := hx2.byt.form
    have HT2 := Lib.hid (HT1.out.trans (Trn.of_below HB2.out (S := fun _ => False)) (fun _ _ h => h.elim))
    clear hx2 HO2 Nv
    refine (rfind_is w2 S g s n HD2.out).mono ?_
    rintro e w3 ⟨rfl, hfo⟩
    rcases hfo with ⟨j, hj, hjn, rfl⟩ | ⟨hno, rfl⟩
    · obtain ⟨ib, ic, vn, vc, vs, ha, F, ok⟩ := HD2.out
      have hj0 : (0 : Int) ≤ (j : Int) := by omega
      obtain ⟨cb, cc, rfl, hcc⟩ : ∃ cb cc, vc = .slice (some ⟨cb, 0, none⟩) s.C.length cc ∧ s.C.length ≤ cc ∧ cc ≤ 9223372036854775807 := by
        rcases ha.rows.2 with ⟨_, e0⟩ | ⟨cb, cc, cur, e1, _, _, e2, e3, _⟩
        · omega
        · unfold maxLen at e3
          exact ⟨cb, cc, e1, e2, by omega⟩
      obtain ⟨_, _, d2, _, _, _, _⟩ := robj_cells ha.obj
      have hvl := ha.len
      have hcell : w2.cell? ⟨cb, j, none⟩ = some (vs[j]'(by omega)) := by
        rw [ha.rows.cellAt j (by omega)]
        simp [hvl, hj]
      have hfz := ha.rows.frozenAt j
      have hib : ib < w2.heap.size := F.lt ib F.ib
      have hvib : (Value.slice Av nv cv).ownBlock ≠ some ib := fun e => by
        have h5 := (World.ownsRow.lt HX2.out ib e).1
        have h6 := HD1.out.lt ib F.ib
        omega
      have HX := Lib.hid (ha.setRow ok hj (HX2.out.lower (Nat.zero_le _)) hvib)
      have HFT := Lib.hid F
      have HOK := Lib.hid ok
      have hji : (j : Int) < ((s.C.length : Nat) : Int) := by omega
      have HJN := Lib.hid hjn
      generalize vs[j]'(by omega) = vj at *
      clear ha F ok hvib hjn
      go_wp2_with fail
      go_ret
      rw [HR.out]
      rw [HJN.out] at HX
      have hsz : (w2.setCell ⟨cb, j, none⟩ (.slice Av nv cv)).heap.size = w2.heap.size := setCell_size _ _ _
      have htr : Trn S w (w2.setCell ⟨cb, j, none⟩ (.slice Av nv cv)) := HT2.out.setCell _ (fun _ => HFT.out.c cb rfl)
      refine ⟨rfl, ⟨ib, ic, _, _, _, HX.out, ⟨.inl HFT.out.g, .inl HFT.out.ib, fun k hk => .inl (HFT.out.n k hk), fun k hk => .inl (HFT.out.c k hk), fun u hu k hk => ?_, more_lt htr.size HLT.out⟩, HOK.out.write ?_ HLL.out⟩, htr⟩
      · rcases List.mem_or_eq_of_mem_set hu with hu | rfl
        · exact .inl (HFT.out.r u hu k hk)
        · have h5 := World.ownsRow.lt HX2.out k hk
          exact .inr ⟨by have := HS1.out; omega, by rw [hsz]; exact h5.2⟩
      · rw [HSEC.out]; exact HN.out
    · obtain ⟨ib, ic, vn, vc, vs, ha, F, ok⟩ := HD2.out
      have HLK : Hid (lookC s.C n = none) := look_none hno
      have HMID : Hid (Mid w w2 S g ib ic s vn vc vs (.slice Av nv cv) l vn (inz (keysC s.C))) := by
        refine ⟨ha.obj, ha.img, ?_, ha.rows, ha.each, HX2.out.lower (Nat.zero_le _), fun e => ?_, HT2.out, fun k hk => .inl (F.n k hk)⟩
        · have := ha.ord
          rw [inz_len, keysC_len]
          exact this
        · have h5 := (World.ownsRow.lt HX2.out ib e).1
          have h6 := HD1.out.lt ib F.ib
          omega
      have HFT : Hid (RFoot S w g ib vn vc vs) := ⟨F.g, F.ib, F.n, F.c, F.r, HLT.out⟩
      have HFX : Hid (∀ k, (Value.slice Av nv cv).ownBlock = some k → w.heap.size ≤ k) := fun k hk => by
        have h5 := (World.ownsRow.lt HX2.out k hk).1
        have := HS1.out
        omega
      have HCN := Lib.hid ok.cnt
      have HOK := Lib.hid ok
      clear ha F ok hno
      go_wp2_with fail
      refine wp_region_any (by kernel_rfl) ?_
      refine take_plain 0 39 ?_ rfl rfl (by kernel_rfl) (by kernel_rfl) (by kernel_rfl) (fun _ _ _ h => h) rfl ?_ ?_
      rotate_left
      · intro u; go_simp <;> rfl
      simp only [Act.put, List.setIfInBounds_toArray, List.set_cons_zero, List.set_cons_succ]
      refine take_plain 1 40 ?_ rfl rfl (by kernel_rfl) (by kernel_rfl) (by kernel_rfl) (fun _ _ _ h => h) rfl ?_ ?_
      rotate_left
      · intro u; go_simp <;> rfl
      simp only [Act.put, List.setIfInBounds_toArray, List.set_cons_zero, List.set_cons_succ]
      refine take_plain 2 41 ?_ rfl rfl (by kernel_rfl) (by kernel_rfl) (by kernel_rfl) (fun _ _ _ h => h) rfl ?_ ?_
      rotate_left
      · intro u; go_simp <;> rfl
      simp only [Act.put, List.setIfInBounds_toArray, List.set_cons_zero, List.set_cons_succ]
      refine take_plain 3 42 ?_ rfl rfl (by kernel_rfl) (by kernel_rfl) (by kernel_rfl) (fun _ _ _ h => h) rfl ?_ ?_
      rotate_left
      · intro u; go_simp <;> rfl
      simp only [Act.put, List.setIfInBounds_toArray, List.set_cons_zero, List.set_cons_succ]
      refine take_plain 4 43 ?_ rfl rfl (by kernel_rfl) (by kernel_rfl) (by kernel_rfl) (fun _ _ _ h => h) rfl ?_ ?_
      rotate_left
      · intro u; go_simp <;> rfl
      simp only [Act.put, List.setIfInBounds_toArray, List.set_cons_zero, List.set_cons_succ]
      refine take_plain 6 45 ?_ rfl rfl (by kernel_rfl) (by kernel_rfl) (by kernel_rfl) (fun _ _ _ h => h) rfl ?_ ?_
      rotate_left
      · intro u; go_simp <;> rfl
      simp only [Act.put, List.setIfInBounds_toArray, List.set_cons_zero, List.set_cons_succ]
      refine take_plain 9 48 ?_ rfl rfl (by kernel_rfl) (by kernel_rfl) (by kernel_rfl) (fun _ _ _ h => h) rfl ?_ ?_
      rotate_left
      · intro u; go_simp <;> rfl
      simp only [Act.put, List.setIfInBounds_toArray, List.set_cons_zero, List.set_cons_succ]
      refine take_plain 10 49 ?_ rfl rfl (by kernel_rfl) (by kernel_rfl) (by kernel_rfl) (fun _ _ _ h => h) rfl ?_ ?_
      rotate_left
      · intro u; go_simp <;> rfl
      simp only [Act.put, List.setIfInBounds_toArray, List.set_cons_zero, List.set_cons_succ]
      refine take_plain 11 50 ?_ rfl rfl (by kernel_rfl) (by kernel_rfl) (by kernel_rfl) (fun _ _ _ h => h) rfl ?_ ?_
      rotate_left
      · intro u; go_simp <;> rfl
      simp only [Act.put, List.setIfInBounds_toArray, List.set_cons_zero, List.set_cons_succ]
      refine take_plain 13 52 ?_ rfl rfl (by kernel_rfl) (by kernel_rfl) (by kernel_rfl) (fun _ _ _ h => h) rfl ?_ ?_
      rotate_left
      · intro u; go_simp <;> rfl
      simp only [Act.put, List.setIfInBounds_toArray, List.set_cons_zero, List.set_cons_succ]
      refine any_lst (L' := lst false false false false false false false false false false false false) (by kernel_rfl) ?_
      refine reg10 (w := w) (S := S) (g := g) (ib := ib) (ic := ic) (s := s) (vn := vn) (vc := vc) (vs := vs) (x := .slice Av nv cv) (l := l) (n := n) ?_ ⟨_, rfl, rfl, rfl, rfl⟩ ⟨_, rfl, rfl, rfl, rfl⟩ ⟨_, rfl, rfl, rfl, rfl⟩ ⟨_, rfl, rfl, rfl, rfl⟩ ⟨_, rfl, rfl, rfl, rfl⟩ ⟨_, rfl, rfl, rfl, rfl⟩ ⟨_, rfl, rfl, rfl, rfl⟩ ⟨_, rfl, rfl, rfl, rfl⟩ ⟨_, rfl, rfl, rfl, rfl⟩ ⟨_, rfl, rfl, rfl, rfl⟩ ⟨_, rfl, rfl, rfl, rfl⟩ ⟨_, rfl, rfl, rfl, rfl⟩ (by kernel_rfl) (by kernel_rfl) (by kernel_rfl) (by kernel_rfl) (by kernel_rfl) (by kernel_rfl) (by kernel_rfl) (fun d5 d7 d12 d14 d8 hv => ?_) HFT.out HFX.out HLK.out HCN.out _ _ ⟨⟨rfl, rfl, rfl, rfl, rfl, rfl, rfl, rfl⟩, fun h => (by cases h), fun h => (by cases h), fun h => (by cases h), fun h => (by cases h), HMID.out.below ⟨rfl, rfl, rfl, Nat.le_refl _, fun _ _ => rfl⟩⟩
      rotate_left
      · cases d8
        · clear hv
          cases d5 <;> cases d7 <;> cases d12 <;> cases d14 <;> kernel_rfl
        · obtain ⟨rfl, rfl⟩ := hv rfl
          clear hv
          cases d12 <;> cases d14 <;> kernel_rfl
      intro a u v47 v54 hdf hsz href hfoot htrn
      obtain ⟨T, ds⟩ := a
      simp only at hdf hsz
      subst hdf
      have HREF := Lib.hid href
      have HFOOT := Lib.hid hfoot
      have HTRN := Lib.hid htrn
      clear href hfoot htrn
      go_wp2_with fail
      go_ret
      rw [HR.out]
      have hget : (Act.put ⟨T, []⟩ (some 6) (Value.int .i64 0)).eval (.tmp 6) = .int .i64 0 := ev_eq (by show 6 < T.size; omega)
      exact ⟨congrArg Ending.returned hget, ⟨ib, ic, _, _, _, HREF.out, HFOOT.out, HOK.out.write (by rw [HSEC.out]; exact HN.out) HLL.out⟩, HTRN.out⟩
  · have HR : Hid (writeR s (n : Int) l = (8, tick s)) := by
      rw [Hid]; unfold writeR; rw [if_pos ⟨⟨by omega, by omega⟩, hl⟩, hbl]; rfl
    rw [hbl] at HF
    clear hbl hn hl
    generalize secs s = sec at *
    go_enter Tryd.func58, Tryd.ntmps58
    go_wp2_with fail
    refine HS.out.mono ?_
    rintro e w1 ⟨rfl, rfl⟩
    go_wp2_with fail
    refine HF.out.mono ?_
    rintro e w1 ⟨rfl, hd1, ht1, hs1⟩
    have HD1 := Lib.hid hd1
    have HT1 := Lib.hid ht1
    clear hd1 ht1 hs1
    go_wp2_with fail
    go_ret
    rw [HR.out]
    exact ⟨rfl, HD1.out.more HT1.out.size HLT.out, HT1.out⟩
theorem rwrite_any (w : World) (S : Nat → Prop) (g : Nat) (s : St) (x : Int) (v : Value) (l : List UInt8) (h : Ref w S g s) (hv : Byt w v l) (hne : ∀ k, v.ownBlock = some k → ¬ S k) :
    Calls Tryd.prog 58 #[.pointer (some ⟨g, 0, none⟩), .int .i64 x, v] w (RDone w S g (writeR s x l)) := by
  by_cases hx : (0 ≤ x ∧ x < ((secs s : Nat) : Int)) ∧ l.length = 512
  · obtain ⟨n, rfl⟩ : ∃ n : Nat, x = (n : Int) := ⟨x.toNat, by omega⟩
    exact rwrite_ok w S g s n v l h hv hne (by omega) hx.2
  · exact rwrite_bad w S g s x v l h hv hx
end Go.Proofs.YtagchbpofoidmaaDoor
