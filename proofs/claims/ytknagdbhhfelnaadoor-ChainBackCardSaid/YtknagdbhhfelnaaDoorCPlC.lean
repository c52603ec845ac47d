/-
  Package pool: save and vacate by their contracts. Conditions: none but that the pool lies there.
-/
import Derived.Test.YtknagdbhhfelnaaDoorCPlB
namespace Go.Proofs.YtknagdbhhfelnaaDoor
open Go.RowKit Go.Maps
set_option maxRecDepth 100000

/-- A frame's page is saved, if it is dirty. -/
def saveQ (P : PSt) (i : Nat) : Nat × PSt :=
  if (P.fr.getD i zeroF).dirty = true then
    if (saveP P.s (P.fr.getD i zeroF).page (P.fr.getD i zeroF).b).1 = 0 then (0, ⟨P.fr.set i { P.fr.getD i zeroF with dirty := false }, P.hand, (saveP P.s (P.fr.getD i zeroF).page (P.fr.getD i zeroF).b).2⟩)
    else ((saveP P.s (P.fr.getD i zeroF).page (P.fr.getD i zeroF).b).1, ⟨P.fr, P.hand, (saveP P.s (P.fr.getD i zeroF).page (P.fr.getD i zeroF).b).2⟩)
  else (0, P)
/-- .. and the frame is empty then. -/
def vacQ (P : PSt) (i : Nat) : Nat × PSt :=
  if (saveQ P i).1 = 0 then (0, ⟨(saveQ P i).2.fr.set i zeroF, (saveQ P i).2.hand, (saveQ P i).2.s⟩) else saveQ P i
/-- What a call that answers an error alone leaves. -/
def POut (w : World) (T : Nat → Prop) (p d fb : Nat) (r : Nat × PSt) (e : Ending) (w' : World) : Prop := e = .returned (.int .i64 (r.1 : Int)) ∧ PAt w' (more T w w') p d fb r.2 ∧ Trn T w w'
theorem frInfo : (Tryd.prog.info? 81).map (fun i => (i.zero, i.size)) = some (some (.agg (frL zeroF (.slice none 0 0)).toArray), 6) := by kernel_rfl
theorem frZero : ∀ w, (zeroValue 81).run Tryd.prog w = .ok (.agg (frL zeroF (.slice none 0 0)).toArray) w := (zero_of_info frInfo).1
theorem frSize : (Tryd.prog.info? 81).map (·.size) = some 6 := (zero_of_info frInfo).2
theorem frU : Tryd.prog.underlying 81 = some (.struct (Tryd.prog.fieldsOf 81)) := by kernel_rfl
theorem frL_one {w : World} (y : Fr × Value) (hy : Byt w y.2 y.1.b) : ∀ v ∈ frL y.1 y.2, v.oneCell' = true := by
  obtain ⟨A, c, e, _⟩ := hy
  intro v hv
  simp [frL, e] at hv
  rcases hv with rfl | rfl | rfl | rfl | rfl | rfl <;> rfl
theorem putAll_list : ∀ (vs : List Value) (cur : List Value) (j : Nat), putAll cur.toArray j vs = (vs.foldl (fun (x : List Value × Nat) v => (x.1.set x.2 v, x.2 + 1)) (cur, j)).1.toArray
  | [], _, _ => rfl
  | v :: vs, cur, j => by
    rw [putAll, List.setIfInBounds_toArray, putAll_list vs]
    rfl
theorem flat_put (l : List (Fr × Value)) (i : Nat) (hi : i < l.length) (y : Fr × Value) : putAll (flat l).toArray (i * 6) (frL y.1 y.2) = (flat (l.set i y)).toArray := by
  rw [putAll_list]
  congr 1
  apply List.ext_getElem?
  intro q
  have hl := flat_len l
  simp only [frL, List.foldl_cons, List.foldl_nil, List.getElem?_set, List.length_set]
  by_cases hq : q / 6 = i
  · have hq' : q = i * 6 + q % 6 := by omega
    have h6 : q % 6 < 6 := Nat.mod_lt _ (by omega)
    rw [hq', flat_get (l.set i y) i (by simpa using hi) (q % 6) h6]
    have hin : i * 6 + 5 < (flat l).length := by omega
    rw [List.getElem_set_self]
    generalize q % 6 = r at *
    match r, h6 with
    | 0, _ => (repeat (first | rw [if_pos (by omega)] | rw [if_neg (by omega)])) <;> simp [frL]
    | 1, _ => (repeat (first | rw [if_pos (by omega)] | rw [if_neg (by omega)])) <;> simp [frL]
    | 2, _ => (repeat (first | rw [if_pos (by omega)] | rw [if_neg (by omega)])) <;> simp [frL]
    | 3, _ => (repeat (first | rw [if_pos (by omega)] | rw [if_neg (by omega)])) <;> simp [frL]
    | 4, _ => (repeat (first | rw [if_pos (by omega)] | rw [if_neg (by omega)])) <;> simp [frL]
    | 5, _ => (repeat (first | rw [if_pos (by omega)] | rw [if_neg (by omega)])) <;> simp [frL]
  · have h6 : q % 6 < 6 := Nat.mod_lt _ (by omega)
    rw [if_neg (by omega), if_neg (by omega), if_neg (by omega), if_neg (by omega), if_neg (by omega), if_neg (by omega)]
    by_cases hlt : q / 6 < l.length
    · rw [show q = q / 6 * 6 + q % 6 by omega, flat_get l (q / 6) hlt (q % 6) h6, flat_get (l.set i y) (q / 6) (by simpa using hlt) (q % 6) h6, List.getElem_set_ne (by omega)]
    · rw [List.getElem?_eq_none (by omega), List.getElem?_eq_none (by rw [flat_len, List.length_set]; omega)]
section
variable {w w' : World} {S T : Nat → Prop} {p d fb hand : Nat} {l : List (Fr × Value)} {s : St}
/-- A whole frame is written. -/
theorem PAtL.putRow (h : PAtL w S T p d fb l hand s) {i : Nat} (hi : i < l.length) (y : Fr × Value) (hb : Byt w y.2 y.1.b) (ho : ∀ k, y.2.ownBlock = some k → T k ∧ ¬ S k ∧ k ≠ p ∧ k ≠ fb) :
    PAtL (w.setRow fb (putAll (flat l).toArray (i * 6) (frL y.1 y.2))) S T p d fb (l.set i y) hand s := by
  have ht := setRow_trn w fb (putAll (flat l).toArray (i * 6) (frL y.1 y.2))
  have hl : (l.set i y).length = l.length := List.length_set
  refine ⟨?_, ?_, h.dsk.trn ht (fun k hk e => h.sf (e ▸ hk)), fun x hx => ?_, fun x hx => ?_, h.sT, h.tp, h.tf, h.sp, h.sf, h.pf, fun k hk => Nat.lt_of_lt_of_le (h.lt k hk) ht.size, by rw [hl]; exact h.n8, by rw [hl]; exact h.n256, by rw [hl]; exact h.hd⟩
  · rw [hl]
    exact (ht.block p (h.lt p h.tp) h.pf).trans h.obj
  · rw [flat_put l i hi y]
    exact setRow_heap w fb _ _ _ _ h.blk
  · rcases List.mem_or_eq_of_mem_set hx with hx | rfl
    · exact (h.byt x hx).trn ht (fun k hk => (h.own x hx k hk).2.2.2)
    · exact hb.trn ht (fun k hk => (ho k hk).2.2.2)
  · rcases List.mem_or_eq_of_mem_set hx with hx | rfl
    · exact h.own x hx
    · exact ho
theorem store_frame (h : PAtL w S T p d fb l hand s) {i : Nat} (hi : i < l.length) (y : Fr × Value) (hb : Byt w y.2 y.1.b) :
    (storeVar 81 ⟨fb, i * 6, none⟩ (.agg (frL y.1 y.2).toArray)).run Tryd.prog w = .ok () (w.setRow fb (putAll (flat l).toArray (i * 6) (frL y.1 y.2))) := by
  have := storeCells_at (P := Tryd.prog) fb (i * 6) _ (frL y.1 y.2) 0 _ w h.blk (by simp [flat_len, frL]; omega) (frL_one y hb)
  have hs := frSize
  cases hq : Tryd.prog.info? 81 with
  | none => rw [hq] at hs; cases hs
  | some i =>
    rw [hq] at hs
    have hsz : i.size = 6 := by simpa using hs
    simp [storeVar, sizeOf, typeInfo, hq, Value.cells, hsz, this, show (frL y.1 y.2).length = 6 from rfl]
theorem wpList_storeF {ops : Array Oper} {rest : List Oper} {o : Oper} {a : Act} {Q : Exit → Act → World → Prop} (h : PAtL w S T p d fb l hand s) (i : Nat) (hi : i < l.length) (y : Fr × Value) (hb : Byt w y.2 y.1.b) (hown : ∀ k, y.2.ownBlock = some k → T k ∧ ¬ S k ∧ k ≠ p ∧ k ≠ fb)
    (hgd : o.guard = none) (a1 a2 : Operand) (ho : o.op = .store 81 a1 a2) (hx : a.eval a1 = .pointer (some ⟨fb, i * 6, none⟩)) (hy : a.eval a2 = .agg (frL y.1 y.2).toArray)
    (hK : ∀ w', PAtL w' S T p d fb (l.set i y) hand s → Trn (fun k => k = fb) w w' → w'.heap.size = w.heap.size → wpList Tryd.prog ops Q rest (a.put o.dst undef) w') : wpList Tryd.prog ops Q (o :: rest) a w :=
  wpList_plain hgd fun _ hk => by
    unfold Oper.wp execOp
    simp only [ho, hx, hy, Instr.storeAt, Instr.sureAddr, Sem.run_bind, Sem.run_pure, Result.andThen_ok, store_frame h hi y hb]
    exact hk _ _ (hK _ (h.putRow hi y hb hown) (setRow_trn _ _ _) (by simp [World.setRow]))
theorem more_size {T : Nat → Prop} {w a b : World} (h : a.heap.size = b.heap.size) : more T w a = more T w b := by unfold more; rw [h]
theorem drew_trn {S : Nat → Prop} {w w' : World} (h : Trn S w.drew w') : Trn S w w' := (Trn.refl S w).drew.trans h (fun _ _ h => h)
theorem PAtL.get (_h : PAtL w S T p d fb l hand s) {P : PSt} (hf : l.map (·.1) = P.fr) {i : Nat} (hi : i < l.length) : P.fr.getD i zeroF = l[i].1 := by
  rw [← hf]
  simp [hi]
theorem PAtL.mem (h : PAtL w S T p d fb l hand s) {i : Nat} (hi : i < l.length) : Byt w l[i].2 l[i].1.b ∧ ∀ k, l[i].2.ownBlock = some k → T k ∧ ¬ S k ∧ k ≠ p ∧ k ≠ fb := ⟨h.byt _ (List.getElem_mem hi), h.own _ (List.getElem_mem hi)⟩
set_option maxHeartbeats 1000000 in
theorem psave_is {P : PSt} (h : PAt w T p d fb P) (i : Nat) (hi : i < P.fr.length) :
    Calls Tryd.prog 54 #[.pointer (some ⟨p, 0, none⟩), .pointer (some ⟨fb, i * 6, none⟩)] w (POut w T p d fb (saveQ P i)) := by
  obtain ⟨S, l, h, hf⟩ := h
  have hil : i < l.length := by rw [← hf] at hi; simpa using hi
  obtain ⟨d0, d1, d2, d3, d4, d5⟩ := h.at hil
  obtain ⟨c0, c1, c2, c3⟩ := h.cells
  have hg := h.get hf hil
  by_cases hdy : l[i].1.dirty = true
  · have hbm := h.mem hil
    have hCS : ∀ u, Trn S w.drew u → u.cell? ⟨p, 0, none⟩ = some (.pointer (some ⟨d, 0, none⟩)) ∧ u.cell? ⟨fb, i * 6 + 1, none⟩ = some (.int .i64 l[i].1.page) ∧ u.cell? ⟨fb, i * 6 + 5, none⟩ = some l[i].2 := fun u hu => by
      have hbp : u.heap[p]? = w.heap[p]? := hu.block p (h.lt p h.tp) h.sp
      have hbf : u.heap[fb]? = w.heap[fb]? := hu.block fb (h.lt fb h.tf) h.sf
      exact ⟨(World.cell?_of_block (a := ⟨p, 0, none⟩) hbp).trans c0, (World.cell?_of_block (a := ⟨fb, i * 6 + 1, none⟩) hbf).trans d1, (World.cell?_of_block (a := ⟨fb, i * 6 + 5, none⟩) hbf).trans d5⟩
    have CS := Lib.hid hCS
    have HWR := Lib.hid (save_is w.drew S d P.s l[i].1.page l[i].2 l[i].1.b (h.dsk.below (Below.refl _ _).drew) (hbm.1.below (Below.refl _ _).drew) (fun k hk => (hbm.2 k hk).2.1) (fun k hk => h.lt k (hbm.2 k hk).1))
    have hsv : saveQ P i = if (saveP P.s l[i].1.page l[i].1.b).1 = 0 then (0, ⟨P.fr.set i { l[i].1 with dirty := false }, P.hand, (saveP P.s l[i].1.page l[i].1.b).2⟩) else ((saveP P.s l[i].1.page l[i].1.b).1, ⟨P.fr, P.hand, (saveP P.s l[i].1.page l[i].1.b).2⟩) := by
      unfold saveQ
      rw [hg, if_pos hdy]
    rw [hsv]
    have HAT : Hid (∀ w' s', Dsk w' (more S w.drew w') d s' → Trn S w.drew w' → PAtL w' (more S w w') (more T w w') p d fb l P.hand s') := fun w' s' a b => h.disk (w := w) a (drew_trn b)
    have HST := Lib.hid h.sT
    have HF := Lib.hid hf
    have HIL := Lib.hid hil
    have HE : Hid ((frL l[i].1 l[i].2).set 3 (.bool false) = frL { l[i].1 with dirty := false } l[i].2) := rfl
    have HB := Lib.hid hbm
    have HBY : Hid (({ l[i].1 with dirty := false } : Fr).b = l[i].1.b) := rfl
    have HP1 : Hid (∀ w' S' T' s', PAtL w' S' T' p d fb l P.hand s' → w'.cell? ⟨fb, i * 6 + 3, none⟩ = some (.bool true) ∧ w'.frozen? ⟨fb, i * 6 + 3, none⟩ = false) := fun w' S' T' s' a => ⟨hdy ▸ (a.at hil).2.2.2.1, a.frozen _⟩
    have HP2 : Hid (∀ w' S' T' s', PAtL w' S' T' p d fb l P.hand s' → PAtL (w'.setCell ⟨fb, i * 6 + 3, none⟩ (.bool false)) S' T' p d fb (l.set i ({ l[i].1 with dirty := false }, l[i].2)) P.hand s') := fun w' S' T' s' a => a.put hil (by omega) (.bool false) ({ l[i].1 with dirty := false }, l[i].2) rfl (a.mem hil).1 (a.mem hil).2
    have HF2 : Hid ((l.set i ({ l[i].1 with dirty := false }, l[i].2)).map (·.1) = P.fr.set i { l[i].1 with dirty := false }) := by rw [Hid, List.map_set, hf]
    rw [hdy] at d3
    generalize (l.set i ({ l[i].1 with dirty := false }, l[i].2)) = l2 at *
    generalize { l[i].1 with dirty := false } = f' at *
    have HTF := Lib.hid h.tf
    have HTA : Hid (∀ w', Trn S w.drew w' → Trn T w w') := fun w' a => (drew_trn a).wide h.sT
    have HLT := Lib.hid h.lt
    clear h hCS hg hsv hbm c0 c1 c2 c3 d0 d1 d2 d4 d5 hi hdy HE HB HBY
    generalize l[i].1 = fi at *
    generalize l[i].2 = vi at *
    clear hf hil
    generalize saveP P.s fi.page fi.b = r at *
    generalize hR : (if r.1 = 0 then ((0 : Nat), (⟨P.fr.set i f', P.hand, r.2⟩ : PSt)) else (r.1, ⟨P.fr, P.hand, r.2⟩)) = R
    have HR := Lib.hid hR
    clear hR
    go_enter Tryd.func54, Tryd.ntmps54
    go_wp2_with fail
    refine wp_region_R (R := fun x y => Trn S x y) (by kernel_rfl) (fun _ => Trn.refl _ _) (fun h k => h.trans k (fun _ _ h => h)) (by kernel_rfl) (fun d v c a w h => by cases d <;> exact h)
      [(0, false), (1, false), (2, false), (3, false), (4, false), (5, false), (6, false), (7, false), (8, false), (9, false), (10, false), (11, false), (12, false), (13, true), (14, false)] rfl (by kernel_rfl) (by kernel_rfl) ?_
    simp only [sel, List.getElem?_toArray, List.getElem?_cons_succ, List.getElem?_cons_zero]
    generalize w.drew = wd at *
    iterate 3 (refine sch_take ?_ rfl ?_ ?_; rotate_left; (focus (intro u hu; go_simp <;> rfl)); simp only [Act.put, List.setIfInBounds_toArray, List.set_cons_zero, List.set_cons_succ])
    (refine sch_take ?_ rfl ?_ ?_; rotate_left; (focus (intro u hu; have c0 := (CS.out u hu).1; clear hu; go_simp <;> rfl)); simp only [Act.put, List.setIfInBounds_toArray, List.set_cons_zero, List.set_cons_succ])
    iterate 4 (refine sch_take ?_ rfl ?_ ?_; rotate_left; (focus (intro u hu; go_simp <;> rfl)); simp only [Act.put, List.setIfInBounds_toArray, List.set_cons_zero, List.set_cons_succ])
    (refine sch_take ?_ rfl ?_ ?_; rotate_left; (focus (intro u hu; have c1 := (CS.out u hu).2.1; clear hu; go_simp <;> rfl)); simp only [Act.put, List.setIfInBounds_toArray, List.set_cons_zero, List.set_cons_succ])
    iterate 3 (refine sch_take ?_ rfl ?_ ?_; rotate_left; (focus (intro u hu; go_simp <;> rfl)); simp only [Act.put, List.setIfInBounds_toArray, List.set_cons_zero, List.set_cons_succ])
    (refine sch_take ?_ rfl ?_ ?_; rotate_left; (focus (intro u hu; have c2 := (CS.out u hu).2.2; clear hu; go_simp <;> rfl)); simp only [Act.put, List.setIfInBounds_toArray, List.set_cons_zero, List.set_cons_succ])
    refine sch_call rfl ?_
    intro K hK
    go_simp
    refine (HWR.out).mono ?_
    rintro e w4 hdn; obtain ⟨rfl, hdk4, ht4⟩ := id hdn
    have HT4 := Lib.hid ht4
    go_wp2_with fail
    refine hK _ _ HT4.out ?_
    clear hK K
    have HDK := Lib.hid hdk4
    clear ht4 hdn hdk4
    (refine sch_take ?_ rfl ?_ ?_; rotate_left; (focus (intro u hu; go_simp <;> rfl)); simp only [Act.put, List.setIfInBounds_toArray, List.set_cons_zero, List.set_cons_succ])
    refine sch_nil ?_
    have HP := Lib.hid (HAT.out w4 r.2 HDK.out HT4.out)
    have HTW := Lib.hid (HTA.out w4 HT4.out)
    obtain ⟨e1, e2⟩ := HP1.out _ _ _ _ HP.out
    have HP3 := Lib.hid (HP2.out _ _ _ _ HP.out)
    obtain ⟨er, sr⟩ := r
    by_cases h0 : er = 0
    · subst h0
      go_wp2_with fail
      go_ret
      rw [← HR.out, if_pos trivial]
      exact ⟨rfl, ⟨_, _, by rw [more_size (setCell_size _ _ _)]; exact HP3.out, HF2.out⟩, HTW.out.setCell _ (fun _ => HTF.out)⟩
    · have hne := ne_int h0
      go_wp2_with fail
      go_ret
      rw [← HR.out, if_neg h0]
      exact ⟨rfl, ⟨_, _, HP.out, HF.out⟩, HTW.out⟩
  · have hsv : saveQ P i = (0, P) := by
      unfold saveQ
      rw [hg, if_neg hdy]
    rw [hsv]
    have HPW : Hid (POut w T p d fb (0, P) (.returned (.int .i64 0)) w) := ⟨rfl, ⟨S, l, h.wide (fun k hk => .inl hk) (fun k hk => hk.elim (h.lt k) (fun e => by omega)), hf⟩, Trn.refl _ _⟩
    have hdn : l[i].1.dirty = false := by simpa using hdy
    rw [hdn] at d3
    clear h hf hg hdn hdy hsv c0 c1 c2 c3 d0 d1 d2 d4 d5
    go_enter Tryd.func54, Tryd.ntmps54
    go_wp2_with fail
    go_ret
    exact HPW.out
theorem saveQ_len (P : PSt) (i : Nat) : (saveQ P i).2.fr.length = P.fr.length := by
  unfold saveQ
  split
  · split <;> simp
  · rfl
theorem PAt.lt {P : PSt} (h : PAt w T p d fb P) : ∀ k, T k → k < w.heap.size := by
  obtain ⟨S, l, h, _⟩ := h
  exact h.lt
theorem PAt.len {P : PSt} (h : PAt w T p d fb P) : (8 ≤ P.fr.length ∧ P.fr.length ≤ 256) ∧ P.hand < P.fr.length := by
  obtain ⟨S, l, h, hf⟩ := h
  have e : l.length = P.fr.length := by rw [← hf, List.length_map]
  exact ⟨⟨e ▸ h.n8, e ▸ h.n256⟩, e ▸ h.hd⟩
theorem PAt.below {P : PSt} (h : PAt w T p d fb P) (hb : Below w.heap.size w w') : PAt w' T p d fb P := by
  obtain ⟨S, l, h, hf⟩ := h
  exact ⟨S, l, h.below hb, hf⟩
theorem PAt.trn {P : PSt} {T' : Nat → Prop} (h : PAt w T p d fb P) (ht : Trn T' w w') (hne : ∀ k, T k → ¬ T' k) : PAt w' T p d fb P := by
  obtain ⟨S, l, h, hf⟩ := h
  exact ⟨S, l, h.trn ht hne, hf⟩
theorem PAt.wide {P : PSt} (h : PAt w T p d fb P) {T' : Nat → Prop} (hT : ∀ k, T k → T' k) (hlt : ∀ k, T' k → k < w.heap.size) : PAt w T' p d fb P := by
  obtain ⟨S, l, h, hf⟩ := h
  exact ⟨S, l, h.wide hT hlt, hf⟩
/-- A pool that a call left, told from the call's first world. -/
theorem PAt.more {P : PSt} {w0 : World} {T0 : Nat → Prop} (h : PAt w' (more T w w') p d fb P) (h0 : Trn T0 w0 w) (hT : ∀ k, T k → more T0 w0 w k) (hl : ∀ k, T0 k → k < w0.heap.size) (hs : w.heap.size ≤ w'.heap.size) : PAt w' (Go.Proofs.YtknagdbhhfelnaaDoor.more T0 w0 w') p d fb P :=
  h.wide (fun k hk => hk.elim (fun e => (hT k e).elim .inl (fun e => .inr ⟨e.1, by omega⟩)) (fun e => .inr ⟨by have := h0.size; omega, e.2⟩)) (fun k hk => hk.elim (fun e => by have := hl k e; have := h0.size; omega) (fun e => e.2))
theorem PAt.s0 {P : PSt} (h : PAt w T p d fb P) : PAt w (Go.Proofs.YtknagdbhhfelnaaDoor.more T w w) p d fb P := h.wide (fun k hk => .inl hk) (fun k hk => hk.elim (h.lt k) (fun e => by omega))
set_option maxHeartbeats 1000000 in
theorem pvacate_is {P : PSt} (h : PAt w T p d fb P) (i : Nat) (hi : i < P.fr.length) :
    Calls Tryd.prog 34 #[.pointer (some ⟨p, 0, none⟩), .pointer (some ⟨fb, i * 6, none⟩)] w (POut w T p d fb (vacQ P i)) := by
  have hz := frZero
  have HSV := Lib.hid (psave_is h i hi)
  have hl := saveQ_len P i
  have hv : vacQ P i = if (saveQ P i).1 = 0 then (0, ⟨(saveQ P i).2.fr.set i zeroF, (saveQ P i).2.hand, (saveQ P i).2.s⟩) else saveQ P i := rfl
  rw [hv]
  clear hv h
  generalize saveQ P i = r at *
  generalize hR : (if r.1 = 0 then ((0 : Nat), (⟨r.2.fr.set i zeroF, r.2.hand, r.2.s⟩ : PSt)) else r) = R
  have HR := Lib.hid hR
  clear hR
  obtain ⟨er, P1⟩ := r
  go_enter Tryd.func34, Tryd.ntmps34
  go_wp2_with fail
  refine HSV.out.mono ?_
  rintro e w1 ⟨rfl, hp1, ht1⟩
  by_cases h0 : er = 0
  · subst h0
    obtain ⟨S1, l1, h1, hf1⟩ := hp1
    have hil : i < l1.length := by
      have : l1.length = P1.fr.length := by rw [← hf1, List.length_map]
      rw [this]; exact hl ▸ hi
    have H1 := Lib.hid h1
    have HT1 := Lib.hid ht1
    have HTT := Lib.hid h1.tf
    have hfs : Hid ((l1.set i (zeroF, .slice none 0 0)).map (·.1) = P1.fr.set i zeroF) := by rw [Hid, List.map_set, hf1]
    have HIL := Lib.hid hil
    clear h1 ht1 hf1 hil hl hi
    generalize hzr : frL zeroF (.slice none 0 0) = zr at *
    have HZR := Lib.hid hzr
    clear hzr
    go_wp2_with (refine wpList_storeF H1.out i HIL.out (zeroF, .slice none 0 0) (Byt.nil _) (fun k hk => by cases hk) rfl _ _ rfl rfl (by rw [HZR.out]; rfl) ?_; intro w2 h2 ht2 hs2)
    have HT2 := Lib.hid ht2
    have H2 := Lib.hid h2
    clear ht2 h2
    go_ret
    rw [← HR.out, if_pos trivial]
    exact ⟨rfl, ⟨_, _, by rw [more_size hs2]; exact H2.out, hfs.out⟩, HT1.out.more (HT2.out.wide (fun k e => e ▸ HTT.out))⟩
  · have hne := ne_int h0
    have HP1 := Lib.hid hp1
    have HT1 := Lib.hid ht1
    clear hp1 ht1
    go_wp2_with fail
    go_ret
    rw [← HR.out, if_neg h0]
    exact ⟨rfl, HP1.out, HT1.out⟩
end
end Go.Proofs.YtknagdbhhfelnaaDoor
