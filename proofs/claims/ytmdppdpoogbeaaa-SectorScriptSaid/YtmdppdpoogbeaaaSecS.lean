/-
  Append of whatever one-cell values, and the kit's Crash (a crash in memory of its own), by their contracts. Conditions: rows are short.
-/
import Derived.Test.YtmdppdpoogbeaaaSecQ
import Derived.Test.YtmdppdpoogbeaaaOrdT
namespace Go.Proofs.Ytmdppdpoogbeaaa
open Go.RowKit Go.Maps

theorem Rowz.newsO {w : World} {A : Option Addr} {n c : Nat} {vs : List Value} (h : Rowz w (.slice A n c) vs) : n = vs.length ∧ (A = none → vs = []) ∧ ∀ ad, A = some ad → ∀ j u, vs[j]? = some u → w.cell? (ad.add j) = some u := by
  refine ⟨?_, ?_, fun ad e => ?_⟩
  · obtain ⟨A', c', e, _⟩ := h
    injection e
  · rintro rfl
    obtain ⟨A', c', e, h1, h2, h3⟩ := h
    rcases h3 with h3 | ⟨b, off, rfl, _⟩
    · exact h3
    · cases e
  · subst e
    exact h.news
section
variable {P : Program} (w : World)
theorem run_appZ (B : Nat) (t ty e : TypeId) (i : TypeInfo) (z : Value) (bytes : Nat) (ht : P.underlying t = some (.slice e)) (hi : P.info? e = some i) (hz : i.zero = some z)
    (hsize : i.size = 1) (hby : i.bytes = bytes) (hzs : z.cells.size = 1) (v x : Value) (n : Nat) (xs vs : List Value) (hown : w.ownsRow B e 1 v n xs) (hx : Rowz w x vs) (h1 : ∀ u ∈ vs, u.oneCell' = true)
    (hlen : (n + vs.length) * (bytes + 1) ≤ 140737488355328) (hbase : B ≤ w.heap.size) :
    ∃ v' w', (Builtin.append_ #[t, t] ty #[v, x]).run P w = .ok v' w' ∧ w'.ownsRow B e 1 v' (n + vs.length) (xs ++ vs) ∧ w.grownBy w' v.ownBlock ∧ (v'.ownBlock = v.ownBlock ∨ v'.ownBlock = some w.heap.size) := by
  obtain ⟨A, m, c, rfl, _⟩ := hx.form
  obtain ⟨hm, hno, hso⟩ := hx.newsO
  subst hm
  rw [Nat.mul_add, Nat.mul_one] at hlen
  have hml : n + vs.length ≤ maxLen := by simp only [maxLen]; omega
  cases A with
  | none =>
    obtain rfl := hno rfl
    refine ⟨v, w, ?_, by simpa using hown, World.grownBy.refl w _, .inl rfl⟩
    rcases hown.2 with ⟨rfl, _⟩ | ⟨g, cap, cur, rfl, _, _, hnc, _⟩
    · simp [Builtin.append_, run_underlying ht, sizeOf, typeInfo, hi, Builtin.lenOf, Builtin.firstCells]
    · simp [Builtin.append_, run_underlying ht, sizeOf, typeInfo, hi, Builtin.lenOf, Builtin.firstCells, hnc, storeCells]
  | some ad =>
    obtain ⟨v', w', hrun, g2, g3, _, g5⟩ := run_append_own_at (P := P) w B t ty e i z 1 bytes ht hi hz hsize hby hzs (by omega) v n xs hown ad vs.length c vs (by omega) (hso ad rfl) h1 hml (by omega) hbase
    exact ⟨v', w', hrun, g2, g3, g5⟩
theorem wp_appZ {o : Oper} {a : Act} {K : Act → World → Prop} {Q : Exit → Act → World → Prop} (s x : Operand) (t : TypeId)
    (ho : o.op = .call { callee := .builtin .append, args := #[s, x], argTypes := #[t, t] })
    (B : Nat) (e : TypeId) (i : TypeInfo) (z : Value) (bytes : Nat) (ht : P.underlying t = some (.slice e)) (hi : P.info? e = some i) (hz : i.zero = some z)
    (hsize : i.size = 1) (hby : i.bytes = bytes) (hzs : z.cells.size = 1) (v : Value) (n : Nat) (xs : List Value) (hs : a.eval s = v) (hown : w.ownsRow B e 1 v n xs)
    (xv : Value) (vs : List Value) (hxv : a.eval x = xv) (hx : Rowz w xv vs) (h1 : ∀ u ∈ vs, u.oneCell' = true)
    (hlen : (n + vs.length) * (bytes + 1) ≤ 140737488355328) (hbase : B ≤ w.heap.size)
    (h : ∀ v' w', w'.ownsRow B e 1 v' (n + vs.length) (xs ++ vs) → w.grownBy w' v.ownBlock → (v'.ownBlock = v.ownBlock ∨ v'.ownBlock = some w.heap.size) → K (a.put o.dst v') w') : o.wp P a w K Q := by
  obtain ⟨v', w', hrun, h2, h3, h4⟩ := run_appZ (P := P) w B t o.type e i z bytes ht hi hz hsize hby hzs v xv n xs vs hown hx h1 hlen hbase
  unfold Oper.wp execOp
  simp only [ho, resolve, invoke, builtin, Sem.run_bind, Sem.run_pure, Result.andThen_ok, List.map_toArray, List.map_cons, List.map_nil, hs, hxv, hrun]
  exact h v' w' h2 h3 h4
theorem wpList_appZ {ops : Array Oper} {rest : List Oper} {o : Oper} {a : Act} {Q : Exit → Act → World → Prop} (hgd : o.guard = none) (s x : Operand) (t : TypeId)
    (ho : o.op = .call { callee := .builtin .append, args := #[s, x], argTypes := #[t, t] })
    (B : Nat) (e : TypeId) (i : TypeInfo) (z : Value) (bytes : Nat) (ht : P.underlying t = some (.slice e)) (hi : P.info? e = some i) (hz : i.zero = some z)
    (hsize : i.size = 1) (hby : i.bytes = bytes) (hzs : z.cells.size = 1) (v : Value) (n : Nat) (xs : List Value) (hs : a.eval s = v) (hown : w.ownsRow B e 1 v n xs)
    (xv : Value) (vs : List Value) (hxv : a.eval x = xv) (hx : Rowz w xv vs) (h1 : ∀ u ∈ vs, u.oneCell' = true)
    (hlen : (n + vs.length) * (bytes + 1) ≤ 140737488355328) (hbase : B ≤ w.heap.size)
    (h : ∀ v' w', w'.ownsRow B e 1 v' (n + vs.length) (xs ++ vs) → w.grownBy w' v.ownBlock → (v'.ownBlock = v.ownBlock ∨ v'.ownBlock = some w.heap.size) → wpList P ops Q rest (a.put o.dst v') w') : wpList P ops Q (o :: rest) a w :=
  wpList_plain hgd fun _ hK => wp_appZ w s x t ho B e i z bytes ht hi hz hsize hby hzs v n xs hs hown xv vs hxv hx h1 hlen hbase fun v' w' h2 h3 h4 => hK _ _ (h v' w' h2 h3 h4)
end

/-- What the kit's Crash leaves: a crash in memory of its own. -/
def CrashOwn (w : World) (keep : List Bool) (torn bytes : Int) (e : Ending) (w' : World) : Prop :=
  ∃ v, e = .returned (.agg (crashV v torn bytes)) ∧ Rowz w' v (keep.map Value.bool) ∧ (∀ k, v.ownBlock = some k → w.heap.size ≤ k) ∧ Below w.heap.size w w'
set_option maxRecDepth 100000 in
set_option maxHeartbeats 4000000 in
theorem kcrash_any (w : World) (vk : Value) (keep : List Bool) (torn bytes : Int) (hv : Rowz w vk (keep.map Value.bool)) (hk : keep.length ≤ 100) :
    Calls Try.prog 16 #[.agg (crashV vk torn bytes)] w (CrashOwn w keep torn bytes) := by
  obtain ⟨i0, hi0, hz0, hz1, hz2⟩ := info_parts binfo
  obtain ⟨A, m, c, rfl, N, hnc, hcm⟩ := hv.form
  obtain ⟨wd, hwd⟩ : ∃ wd, wd = ((w.alloc (.cells (crashV (.slice A m c) torn bytes) 34)).alloc (.cells (crashV (.slice none 0 0) 0 0) 34)).drew := ⟨_, rfl⟩
  have hb : Below w.heap.size w wd := by
    subst hwd
    exact (((below_new w _).alloc (by simp) _)).drew
  have hsz : wd.heap.size = w.heap.size + 2 := by
    subst hwd
    show ((w.alloc _).alloc _).heap.size = _
    simp
  have h0 : wd.heap[w.heap.size]? = some (.cells (crashV (.slice A m c) torn bytes) 34) := by
    subst hwd
    show ((w.alloc _).alloc _).heap[w.heap.size]? = _
    rw [heap_alloc_old _ _ (by simp)]
    exact heap_alloc_new w _
  have h1 : wd.heap[w.heap.size + 1]? = some (.cells (crashV (.slice none 0 0) 0 0) 34) := by
    subst hwd
    have := heap_alloc_new (w.alloc (.cells (crashV (.slice A m c) torn bytes) 34)) (.cells (crashV (.slice none 0 0) 0 0) 34)
    rw [show (w.alloc (.cells (crashV (.slice A m c) torn bytes) 34)).heap.size = w.heap.size + 1 by simp] at this
    exact this
  have HB := Lib.hid hb
  have HSZ := Lib.hid hsz
  have H0 := Lib.hid h0
  have H1 := Lib.hid h1
  have HV := Lib.hid (hv.below hb)
  have HK := Lib.hid hk
  have HWD := Lib.hid hwd
  have HC : Hid (∀ u, Below (w.heap.size + 2) wd u → u.cell? ⟨w.heap.size, 0, none⟩ = some (.slice A m c) ∧ u.cell? ⟨w.heap.size, 1, none⟩ = some (.int .i64 torn) ∧ u.cell? ⟨w.heap.size, 2, none⟩ = some (.int .i64 bytes)) := fun u hu => by
    have hq := (hu.block w.heap.size (by omega)).trans h0
    refine ⟨?_, ?_, ?_⟩ <;> (rw [cell_of_row _ _ _ _ _ _ hq]; rfl)
  clear hv hk hb hsz h0 h1 hwd
  unfold crashV at *
  go_enter Try.func16, Try.ntmps16
  go_wp2_with fail
  refine wp_region_T (R := fun x y => Below (w.heap.size + 2) x y) (by kernel_rfl) (fun _ => Below.refl _ _) (fun h k => h.trans k) (by kernel_rfl) 9 rfl (by kernel_rfl) (by kernel_rfl) (fun d v c a w h => by cases d <;> exact h)
    [(1, false), (2, false), (4, false), (5, false), (6, false), (7, false), (0, true), (3, true), (8, false)] rfl (by kernel_rfl) ?_
  simp only [sel, List.getElem?_toArray, List.getElem?_cons_succ, List.getElem?_cons_zero]
  rw [← HWD.out]
  (refine schT_take ?_ rfl ?_ ?_; rotate_left; (focus (intro u hu; go_simp <;> rfl)); simp only [Act.put, List.setIfInBounds_toArray, List.set_cons_zero, List.set_cons_succ])
  (refine schT_take ?_ rfl ?_ ?_; rotate_left; (focus (intro u hu; obtain ⟨c0, _, _⟩ := HC.out u hu; clear hu; go_simp <;> rfl)); simp only [Act.put, List.setIfInBounds_toArray, List.set_cons_zero, List.set_cons_succ])
  (refine schT_take ?_ rfl ?_ ?_; rotate_left; (focus (intro u hu; go_simp <;> rfl)); simp only [Act.put, List.setIfInBounds_toArray, List.set_cons_zero, List.set_cons_succ])
  (refine schT_take ?_ rfl ?_ ?_; rotate_left; (focus (intro u hu; obtain ⟨_, c0, _⟩ := HC.out u hu; clear hu; go_simp <;> rfl)); simp only [Act.put, List.setIfInBounds_toArray, List.set_cons_zero, List.set_cons_succ])
  (refine schT_take ?_ rfl ?_ ?_; rotate_left; (focus (intro u hu; go_simp <;> rfl)); simp only [Act.put, List.setIfInBounds_toArray, List.set_cons_zero, List.set_cons_succ])
  (refine schT_take ?_ rfl ?_ ?_; rotate_left; (focus (intro u hu; obtain ⟨_, _, c0⟩ := HC.out u hu; clear hu; go_simp <;> rfl)); simp only [Act.put, List.setIfInBounds_toArray, List.set_cons_zero, List.set_cons_succ])
  clear HWD
  refine schT_call rfl ?_
  intro K hK
  go_simp
  refine hK _ _ ((Below.refl _ _).alloc (by rw [HSZ.out]; exact Nat.le_refl _) _) ?_
  clear hK K
  refine schT_call rfl ?_
  intro K hK
  have HE := Lib.hid (World.ownsRow_lit (base := w.heap.size + 2) (e := 4) (size := 1) wd #[] 0 (by rw [HSZ.out]; exact Nat.le_refl _) (by simp [maxLen]) rfl)
  refine wp_appZ _ (.tmp 3) (.tmp 5) _ rfl (w.heap.size + 2) 4 i0 _ 1 Try.underlying32 hi0 hz0 hz1 hz2 rfl _ 0 [] rfl HE.out _ (keep.map Value.bool) rfl (HV.out.below (below_new wd _)) (bools_one keep) (by have := HK.out; simp only [List.length_map]; omega) (by simp [HSZ.out]) ?_
  intro v7 w7 hown7 hg7 hat7
  have hb7 : Below (w.heap.size + 2) (wd.alloc (.cells #[] 4)) w7 := below_own (Below.refl _ _) (by simp [HSZ.out]) HE.out hg7
  refine hK _ _ hb7 ?_
  clear hK K
  have hr7 := bools_rowz hown7
  rw [List.nil_append] at hr7
  obtain ⟨A7, n7, c7, rfl, N7, _, _⟩ := hr7.form
  have HL7 : Hid (∀ k, (Value.slice A7 n7 c7).ownBlock = some k → w.heap.size + 2 ≤ k) := fun k hk => (World.ownsRow.lt hown7 k hk).1
  have HR7 := Lib.hid hr7
  have hbx : Below (w.heap.size + 2) wd w7 := ((Below.refl _ _).alloc (by rw [HSZ.out]; exact Nat.le_refl _) _).trans hb7
  have H17 := Lib.hid ((hbx.block (w.heap.size + 1) (by omega)).trans H1.out)
  have HB7 := Lib.hid (HB.out.trans (hbx.mono (by omega)))
  clear hown7 hg7 hat7 hb7 hr7 N7 hbx
  (refine schT_take ?_ rfl ?_ ?_; rotate_left; (focus (intro u hu; go_simp <;> rfl)); simp only [Act.put, List.setIfInBounds_toArray, List.set_cons_zero, List.set_cons_succ])
  refine schT_nil ?_
  refine schT_last rfl rfl ?_
  refine wp_store_row 34 _ _ rfl (w.heap.size + 1) #[.slice A7 n7 c7, .int .i64 torn, .int .i64 bytes] rfl rfl 34 _ H17.out crashSize rfl (by simp [Value.oneCell']) ?_
  have hg8 := setRow_heap w7 (w.heap.size + 1) _ #[.slice A7 n7 c7, .int .i64 torn, .int .i64 bytes] _ _ H17.out
  have HB8 := Lib.hid (below_setRow HB7.out (by omega) #[.slice A7 n7 c7, .int .i64 torn, .int .i64 bytes] (g := w.heap.size + 1))
  have hr8 : Rowz (w7.setRow (w.heap.size + 1) #[.slice A7 n7 c7, .int .i64 torn, .int .i64 bytes]) (.slice A7 n7 c7) (keep.map Value.bool) :=
    HR7.out.trn (S := fun k => k = w.heap.size + 1) ⟨rfl, rfl, rfl, by simp [World.setRow], fun k _ hk => setRow_other w7 _ k _ hk⟩ (fun k hk e => by have := HL7.out k hk; omega)
  have HG8 := Lib.hid hg8
  have HR8 := Lib.hid hr8
  clear hg8 hr8 HR7 HB7 H17
  generalize w7.setRow (w.heap.size + 1) #[.slice A7 n7 c7, .int .i64 torn, .int .i64 bytes] = w8 at *
  go_wp2_with fail
  exact bodyPost_ret (v := .agg #[.slice A7 n7 c7, .int .i64 torn, .int .i64 bytes]) (results_cell_row rfl _ w8 (w.heap.size + 1) _ _ (0, 0) _ rfl HG8.out Try.underlying34 rfl crashSize) rfl ⟨_, rfl, HR8.out, fun k hk => by have := HL7.out k hk; omega, HB8.out⟩
end Go.Proofs.Ytmdppdpoogbeaaa
