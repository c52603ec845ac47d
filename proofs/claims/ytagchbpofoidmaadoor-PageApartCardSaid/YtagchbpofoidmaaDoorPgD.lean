/-
  Package page: Bytes by its contract. Conditions: none.
-/
import Derived.Test.YtagchbpofoidmaaDoorPgC
import Derived.Test.YtagchbpofoidmaaDoorSecF
import Derived.Test.YtagchbpofoidmaaDoorOrdT
import Derived.Lib.BufferWrite
namespace Go.Proofs.YtagchbpofoidmaaDoor
open Go.RowKit Go.Maps
set_option maxRecDepth 100000

section
variable {ops : Array Oper} {rest : List Oper} {o : Oper} {a : Act} {w : World} {K : Act → World → Prop} {Q : Exit → Act → World → Prop}
/-- A copy of bytes into a row of the call's own. -/
theorem wp_copyO (dst : Nat) (d s : Operand) (hdst : o.dst = some dst) (ho' : o.op = .call { callee := .builtin .copy, args := #[d, s], argTypes := #[22, 22] })
    (ib off n ic dLen dCap : Nat) (B l : List UInt8) (sv : Value) (hd : a.eval d = .slice (some ⟨ib, off, none⟩) dLen dCap) (hs' : a.eval s = sv)
    (ho : Own w 0 5 (.slice (some ⟨ib, 0, none⟩) n ic) B) (hs : Byt w sv l) (hle : l.length ≤ dLen) (hfit : off + dLen ≤ n)
    (h : ∀ w', Own w' 0 5 (.slice (some ⟨ib, 0, none⟩) n ic) (splice B off l) → Trn (fun k => k = ib) w w' → w'.heap.size = w.heap.size → K (a.put (some dst) (goInt l.length)) w') : o.wp Tryd.prog a w K Q := by
  rw [← hdst] at h
  obtain ⟨w', hrun, g1, g2, g3⟩ := run_copyB (w := w) o.type ib off n ic dLen dCap B l sv ho hs hle hfit
  unfold Oper.wp
  simp [execOp, ho', resolve, invoke, builtin, hd, hs', hrun, Result.andThen]
  exact h w' g1 g2 g3
theorem byteCells_byc (l : List UInt8) : Lib.byteCells l = byc l := rfl
/-- A copy of a text into a row of the call's own. -/
theorem run_copyS (ib off n ic dLen dCap : Nat) (B l : List UInt8) 
    (ho : Own w 0 5 (.slice (some ⟨ib, 0, none⟩) n ic) B) (hle : l.length ≤ dLen) (hfit : off + dLen ≤ n) :
    ∃ w', (∀ ty, (Builtin.copy_ #[22, 9] ty #[.slice (some ⟨ib, off, none⟩) dLen dCap, .string ⟨l.toArray⟩]).run Tryd.prog w = .ok (goInt l.length) w') ∧ Own w' 0 5 (.slice (some ⟨ib, 0, none⟩) n ic) (splice B off l) ∧ Trn (fun k => k = ib) w w' := by
  have hsz : (Tryd.prog.info? 5).map (·.size) = some 1 := by kernel_rfl
  have hls : (⟨l.toArray⟩ : ByteArray).size = l.length := by simp [ByteArray.size]
  rcases ho.2 with ⟨e, _⟩ | ⟨g, cap, cur, e, hle0, hg, q1, q2, q3, q4⟩
  · cases e
  · injection e with e1 e2 e3
    injection e1 with e1
    injection e1 with e1
    subst e1 e3
    subst e2
    refine ⟨_, fun ty => ?_, ⟨?_, .inr ⟨ib, ic, (cur.toList.take off ++ byc l ++ cur.toList.drop (off + l.length)).toArray, ?_, hle0, setRow_heap w ib _ _ _ _ hg, ?_, q2, ?_, ?_⟩⟩, ⟨rfl, rfl, rfl, by simp [World.setRow], fun k hk hne => setRow_other w ib k _ hne⟩⟩
    · have hrun := Lib.run_copy_row_string (P := Tryd.prog) w 22 9 ty 5 ib off dLen dCap ⟨l.toArray⟩ cur 5 Tryd.underlying22 hsz hg (by rw [hls]; exact hle) (by rw [hls]; omega)
      rw [hls, byteCells_byc] at hrun
      exact hrun
    · rw [byc_len]; omega
    · rw [length_splice _ _ _ (by omega)]
    · rw [length_splice _ _ _ (by omega)]; exact q1
    · simp [byc_len]; omega
    · have e : (cur.toList.take off ++ byc l ++ cur.toList.drop (off + l.length)).toArray.toList = splice cur.toList off (byc l) := by
        simp [splice, byc_len]
      rw [e, length_splice _ _ _ (by omega), splice_take _ _ _ _ (by rw [byc_len]; omega) (by simp; omega), q4, byc_splice]
end
theorem Own.lift {w : World} {B g n c : Nat} {e : TypeId} {l : List UInt8} (h : Own w 0 e (.slice (some ⟨g, 0, none⟩) n c) l) (hB : B ≤ g) : Own w B e (.slice (some ⟨g, 0, none⟩) n c) l := by
  refine ⟨h.1, ?_⟩
  rcases h.2 with ⟨e, _⟩ | ⟨g', cap, cur, e, hb, r⟩
  · cases e
  · injection e with e1 e2 e3
    injection e1 with e1
    injection e1 with e1
    subst e1 e3
    exact .inr ⟨g, c, cur, by rw [e2], hB, r⟩

/-- A page by value. -/
def pageV (k n : Int) (vb : Value) : Array Value := #[.int .i64 k, .int .u32 n, vb]
/-- Block p holds this page. -/
def Box (w : World) (p : Nat) (k n : Int) (vb : Value) : Prop := w.heap[p]? = some (.cells (pageV k n vb) 28 (0, 0))
theorem Box.cells {w : World} {p : Nat} {k n : Int} {vb : Value} (h : Box w p k n vb) : w.cell? ⟨p, 0, none⟩ = some (.int .i64 k) ∧ w.cell? ⟨p, 1, none⟩ = some (.int .u32 n) ∧ w.cell? ⟨p, 2, none⟩ = some vb := by
  refine ⟨?_, ?_, ?_⟩ <;> rw [cell_of_row _ _ _ _ _ _ h] <;> rfl
theorem Box.lt {w : World} {p : Nat} {k n : Int} {vb : Value} (h : Box w p k n vb) : p < w.heap.size := (Array.getElem?_eq_some_iff.1 h).1
theorem Box.below {w w' : World} {p : Nat} {k n : Int} {vb : Value} (h : Box w p k n vb) (hb : Below w.heap.size w w') : Box w' p k n vb := (hb.block p h.lt).trans h
theorem Box.new (w : World) (k n : Int) (vb : Value) : Box (w.alloc (.cells (pageV k n vb) 28)) w.heap.size k n vb := heap_alloc_new w _

/-- Where a page's bytes are made: the page, and the row. -/
structure PgSt (w u : World) (p g : Nat) (k n : Int) (vb : Value) (B : List UInt8) : Prop where
  box : Box u p k n vb
  own : Own u 0 5 (.slice (some ⟨g, 0, none⟩) 4096 4096) B
  bel : Below w.heap.size w u
  hp : w.heap.size ≤ p
  hg : w.heap.size ≤ g
section
variable {w u u' : World} {p g : Nat} {k n : Int} {vb : Value} {B : List UInt8}
theorem PgSt.len (h : PgSt w u p g k n vb B) : B.length = 4096 := by
  rcases h.own.2 with ⟨e, _⟩ | ⟨g', cap, cur, e, _⟩
  · cases e
  · injection e with _ e _; exact e.symm
theorem PgSt.ne (h : PgSt w u p g k n vb B) : p ≠ g := by
  rintro rfl
  rcases h.own.2 with ⟨e, _⟩ | ⟨g', cap, cur, e, _, hg, _⟩
  · cases e
  · injection e with e1 _ _
    injection e1 with e1
    injection e1 with e1
    subst e1
    have := h.box
    unfold Box at this
    rw [this] at hg
    injection hg with hg
    injection hg with _ hg _
    cases hg
theorem PgSt.below (h : PgSt w u p g k n vb B) (hb : Below u.heap.size u u') : PgSt w u' p g k n vb B :=
  ⟨h.box.below hb, Own.keep h.own hb, h.bel.trans (hb.mono h.bel.size), h.hp, h.hg⟩
theorem PgSt.row (h : PgSt w u p g k n vb B) {B' : List UInt8} (ho : Own u' 0 5 (.slice (some ⟨g, 0, none⟩) 4096 4096) B') (ht : Trn (fun i => i = g) u u') : PgSt w u' p g k n vb B' :=
  ⟨(ht.block p h.box.lt h.ne).trans h.box, ho, h.bel.trans (ht.below h.bel.size (fun _ e => e ▸ h.hg)), h.hp, h.hg⟩
theorem PgSt.set (h : PgSt w u p g k n vb B) (j : Nat) (x : UInt8) : PgSt w (u.setCell ⟨g, j, none⟩ (.int .u8 (x.toNat : Int))) p g k n vb (B.set j x) :=
  h.row (own_set h.own h.len j x) ((Trn.refl _ _).setCell _ (fun _ => rfl))
end
theorem pgslice (g a b : Nat) (hab : a ≤ b) (hb : b ≤ 4096) (ha : a < 4096) : ∀ W, (Instr.slice 22 (.slice (some ⟨g, 0, none⟩) 4096 4096) (some (.int .i64 (a : Int))) (some (.int .i64 (b : Int))) none).run Tryd.prog W = .ok (.slice (some ⟨g, a, none⟩) (b - a) (4096 - a)) W := by
  intro W
  rw [run_slice_lh W 22 _ 4096 4096 elemByte .i64 .i64 _ _ (by omega) (by omega) (by omega), sizeByte]
  simp only [Result.andThen, sliced, Int.toNat_natCast]
  rw [if_neg (by omega)]
  simp [plainAdd]
theorem pgslice1 (g a : Nat) (ha : a < 4096) : ∀ W, (Instr.slice 22 (.slice (some ⟨g, 0, none⟩) 4096 4096) (some (.int .i64 (a : Int))) none none).run Tryd.prog W = .ok (.slice (some ⟨g, a, none⟩) (4096 - a) (4096 - a)) W := by
  intro W
  rw [run_slice_l W 22 _ 4096 4096 elemByte .i64 (a : Int) (by omega) (by omega), sizeByte]
  simp only [Result.andThen, sliced, Int.toNat_natCast]
  rw [if_neg (by omega)]
  simp [plainAdd]

/-! The row, step by step. -/
theorem splice_mid {p m q r : List UInt8} (h : m.length = q.length) {k : Nat} (hk : p.length = k) : splice (p ++ (m ++ r)) k q = p ++ (q ++ r) := by
  subst hk
  unfold splice
  rw [List.take_left, ← h, ← List.length_append, show p ++ (m ++ r) = (p ++ m) ++ r by simp, List.drop_left]
theorem zs_split (a b : Nat) : zsB (a + b) = zsB a ++ zsB b := by simp [zsB, List.replicate_append_replicate]
theorem row1 : splice (zsB 4096) 0 [84, 77, 1] = [84, 77, 1] ++ zsB 4093 := by
  rw [show (4096 : Nat) = 3 + 4093 from rfl, zs_split]
  have := splice_mid (p := []) (m := zsB 3) (q := [84, 77, 1]) (r := zsB 4093) rfl rfl
  simpa using this
theorem row2 (x : UInt8) : ([84, 77, 1] ++ zsB 4093).set 3 x = [84, 77, 1, x] ++ zsB 4092 := by
  rw [show (4093 : Nat) = 1 + 4092 from rfl, zs_split]
  rfl
theorem row3 (x : UInt8) (n : Nat) : splice ([84, 77, 1, x] ++ zsB 4092) 4 (wordB 4 n) = [84, 77, 1, x] ++ (wordB 4 n ++ zsB 4088) := by
  rw [show (4092 : Nat) = 4 + 4088 from rfl, zs_split]
  exact splice_mid (by rw [zsB_len, wordB_len]) rfl
theorem row4 (k n : Nat) {l : List UInt8} (hl : l.length ≤ 4080) : splice ([84, 77, 1, UInt8.ofNat k] ++ (wordB 4 n ++ zsB 4088)) 16 l = headB k n ++ (zsB 4 ++ padB l) := by
  have e : zsB 4088 = zsB 4 ++ (zsB 4 ++ (zsB l.length ++ zsB (4080 - l.length))) := by
    rw [← zs_split, ← zs_split, ← zs_split]; congr 1; omega
  have e2 : [84, 77, 1, UInt8.ofNat k] ++ (wordB 4 n ++ zsB 4088) = (headB k n ++ zsB 4) ++ (zsB l.length ++ zsB (4080 - l.length)) := by
    rw [e]; unfold headB; simp only [List.append_assoc]
  rw [e2, splice_mid (by rw [zsB_len]) (by rw [List.length_append, headB_len, zsB_len])]
  unfold padB
  simp only [List.append_assoc]
theorem row4_len (k n : Nat) {l : List UInt8} (hl : l.length ≤ 4080) : (headB k n ++ (zsB 4 ++ padB l)).length = 4096 := by
  rw [List.length_append, List.length_append, headB_len, zsB_len, padB_len hl]
theorem row4_sum (k n : Nat) {l : List UInt8} : sumB (headB k n ++ (zsB 4 ++ padB l)) = sumC (headB k n ++ zsB 4 ++ padB l) := by
  unfold sumB
  rw [List.take_left' (headB_len k n)]
  have : (headB k n ++ (zsB 4 ++ padB l)).drop 16 = padB l := by
    rw [← List.append_assoc]
    exact List.drop_left' (by rw [List.length_append, headB_len, zsB_len])
  rw [this]
theorem row5 (k n : Nat) {l : List UInt8} : splice (headB k n ++ (zsB 4 ++ padB l)) 12 (wordB 4 (sumB (headB k n ++ (zsB 4 ++ padB l)))) = pageB k n l := by
  rw [splice_mid (by rw [zsB_len, wordB_len]) (headB_len k n), row4_sum]
  rfl

/-- What Bytes answers of a page that may not be. -/
def Refused (w : World) (x : Nat) (e : Ending) (w' : World) : Prop := e = .returned (.tuple #[.slice none 0 0, .int .i64 (x : Int)]) ∧ Below w.heap.size w w'
/-- What a call that makes bytes, and no error, leaves. -/
def MadeE (w : World) (l : List UInt8) (e : Ending) (w' : World) : Prop := ∃ v, e = .returned (.tuple #[v, .int .i64 0]) ∧ Own w' w.heap.size 5 v l ∧ Below w.heap.size w w'
set_option maxHeartbeats 1000000 in
theorem bytes_bad (w : World) (k n : Int) (vb : Value) (l : List UInt8) (hv : Byt w vb l) (h : ¬ ((1 ≤ k ∧ k ≤ 7) ∧ l.length ≤ 4080)) :
    Calls Tryd.prog 9 #[.agg (pageV k n vb)] w (Refused w 2) := by
  obtain ⟨A, m, c, rfl, N, hnc, hcm⟩ := hv.form
  have HB := Lib.hid (below_new w (.cells (pageV k n (.slice A m c)) 28))
  clear hv
  unfold pageV at *
  by_cases hk : 1 ≤ k ∧ k ≤ 7
  · have HD : Hid (decide (1 ≤ k ∧ k ≤ 7) = true) := decide_eq_true hk
    have hm : (4080 : Int) < (m : Int) := by have := N.out; omega
    clear hk h
    go_enter Tryd.func9, Tryd.ntmps9
    go_wp2_with fail
    refine (isKind_any _ _).mono ?_
    rintro e w1 ⟨rfl, rfl⟩
    rw [HD.out]
    go_wp2_with fail
    go_ret2
    exact ⟨rfl, HB.out⟩
  · have HD : Hid (decide (1 ≤ k ∧ k ≤ 7) = false) := decide_eq_false hk
    clear hk h
    go_enter Tryd.func9, Tryd.ntmps9
    go_wp2_with fail
    refine (isKind_any _ _).mono ?_
    rintro e w1 ⟨rfl, rfl⟩
    rw [HD.out]
    go_wp2_with fail
    go_ret2
    exact ⟨rfl, HB.out⟩

set_option maxRecDepth 100000 in
set_option maxHeartbeats 8000000 in
theorem bytes_ok (w : World) (k nn : Nat) (vb : Value) (l : List UInt8) (hv : Byt w vb l) (h1 : 1 ≤ k) (h7 : k ≤ 7) (hl : l.length ≤ 4080) (hnn : nn < 4294967296) :
    Calls Tryd.prog 9 #[.agg (pageV (k : Int) (nn : Int) vb)] w (MadeE w (pageB k nn l)) := by
  obtain ⟨i0, hi0, hz0, hz1, hz2⟩ := info_parts uinfo
  obtain ⟨A, m, c, rfl, N, hnc, hcm⟩ := hv.form
  have HV := Lib.hid hv
  have HL := Lib.hid hl
  have HD : Hid (decide ((1 : Int) ≤ (k : Int) ∧ (k : Int) ≤ 7) = true) := by rw [Hid]; simp; omega
  have hm : ¬ (4080 : Int) < (m : Int) := by have := N.out; omega
  obtain ⟨w0, hw0⟩ : ∃ w0, w0 = w.alloc (.cells (pageV k nn (.slice A m c)) 28) := ⟨_, rfl⟩
  have HX0 : Hid (Box w0 w.heap.size k nn (.slice A m c)) := hw0 ▸ Box.new w k nn _
  have HB0 : Hid (Below w.heap.size w w0) := hw0 ▸ below_new w _
  have HW0 := Lib.hid hw0
  have HK8 : Hid ((k : Int) % 256 = ((UInt8.ofNat k).toNat : Int)) := byte_mod k
  have s1 : ∀ W, (Instr.slice 22 (.slice (some ⟨w0.heap.size, 0, none⟩) 4096 4096) (some (.int .i64 0)) (some (.int .i64 3)) none).run Tryd.prog W = .ok (.slice (some ⟨w0.heap.size, 0, none⟩) 3 4096) W := pgslice _ 0 3 (by omega) (by omega) (by omega)
  have s2 : ∀ W, (Instr.slice 22 (.slice (some ⟨w0.heap.size, 0, none⟩) 4096 4096) (some (.int .i64 4)) (some (.int .i64 8)) none).run Tryd.prog W = .ok (.slice (some ⟨w0.heap.size, 4, none⟩) 4 4092) W := pgslice _ 4 8 (by omega) (by omega) (by omega)
  have s3 : ∀ W, (Instr.slice 22 (.slice (some ⟨w0.heap.size, 0, none⟩) 4096 4096) (some (.int .i64 16)) none none).run Tryd.prog W = .ok (.slice (some ⟨w0.heap.size, 16, none⟩) 4080 4080) W := pgslice1 _ 16 (by omega)
  have s4 : ∀ W, (Instr.slice 22 (.slice (some ⟨w0.heap.size, 0, none⟩) 4096 4096) (some (.int .i64 12)) (some (.int .i64 16)) none).run Tryd.prog W = .ok (.slice (some ⟨w0.heap.size, 12, none⟩) 4 4084) W := pgslice _ 12 16 (by omega) (by omega) (by omega)
  have HK := Lib.hid h1
  have HK7 := Lib.hid h7
  unfold pageV at hw0 HW0 ⊢
  clear hv hl h1 h7 hw0
  go_enter Tryd.func9, Tryd.ntmps9
  go_wp2_with fail
  refine (isKind_any _ _).mono ?_
  rintro e w1 ⟨rfl, rfl⟩
  rw [HD.out, ← HW0.out]
  have c0 := HX0.out.cells.1
  have c2 := HX0.out.cells.2.2
  go_wp2_with (at_make; refine wpList_make_full _ rfl _ _ 22 rfl w.heap.size 5 i0 _ 1 Tryd.underlying22 hi0 hz0 hz1 _ _ _ _ 4096 rfl rfl rfl rfl (by rw [hz2]; omega) (by simp only [maxLen]; omega) (by have := HB0.out.size; omega) ?_; intro w2 hown2 hg2; have HP2 : Hid (PgSt w w2 w.heap.size w0.heap.size k nn (.slice A m c) (zsB 4096)) := ⟨HX0.out.below (below_none hg2), (own_zeros hown2).lower (Nat.zero_le _), HB0.out.trans ((below_none hg2).mono HB0.out.size), Nat.le_refl _, HB0.out.size⟩; clear hown2 hg2 c0 c2; obtain ⟨w3, hr3, hown3, ht3⟩ := run_copyS w0.heap.size 0 4096 4096 3 4096 (zsB 4096) [84, 77, 1] HP2.out.own (by simp) (by omega); have HP3 : Hid (PgSt w w3 w.heap.size w0.heap.size k nn (.slice A m c) ([84, 77, 1] ++ zsB 4093)) := row1 ▸ HP2.out.row hown3 ht3; have c0 := HP3.out.box.cells.1; have c3 := own_cell HP3.out.own (j := 3) (by rw [HP3.out.len]; omega); have hf3 : w3.frozen? ⟨w0.heap.size, 3, none⟩ = false := World.ownsRow.frozenAt HP3.out.own 3; clear hown3 ht3; generalize (List.getD ([84, 77, 1] ++ zsB 4093) 3 0).toNat = y3 at *)
  rw [HK8.out]
  have HP4 : Hid (PgSt w (w3.setCell ⟨w0.heap.size, 3, none⟩ (.int .u8 ((UInt8.ofNat k).toNat : Int))) w.heap.size w0.heap.size k nn (.slice A m c) ([84, 77, 1, UInt8.ofNat k] ++ zsB 4092)) := row2 (UInt8.ofNat k) ▸ HP3.out.set 3 (UInt8.ofNat k)
  generalize w3.setCell ⟨w0.heap.size, 3, none⟩ (.int .u8 ((UInt8.ofNat k).toNat : Int)) = w4 at *
  replace HP4 : Hid (PgSt w w4.drew w.heap.size w0.heap.size k nn (.slice A m c) ([84, 77, 1, UInt8.ofNat k] ++ zsB 4092)) := HP4.out.below (Below.refl _ _).drew
  refine wp_region_T (R := fun x y => Below x.heap.size x y) (by kernel_rfl) (fun _ => Below.refl _ _) (fun h k => h.trans (k.mono h.size)) (by kernel_rfl) 6 rfl (by kernel_rfl) (by kernel_rfl) (fun d v c a w h => by cases d <;> exact h)
    [(0, false), (1, false), (2, false), (3, false), (4, false), (5, true)] rfl (by kernel_rfl) ?_
  simp only [sel, List.getElem?_toArray, List.getElem?_cons_succ, List.getElem?_cons_zero]
  generalize HG4 : w4.drew = wd at *
  iterate 3 (refine schT_take ?_ rfl ?_ ?_; rotate_left; (focus (intro u hu; go_simp <;> rfl)); simp only [Act.put, List.setIfInBounds_toArray, List.set_cons_zero, List.set_cons_succ])
  (refine schT_take ?_ rfl ?_ ?_; rotate_left; (focus (intro u hu; have c1 := (HP4.out.below hu).box.cells.2.1; clear hu; go_simp <;> rfl)); simp only [Act.put, List.setIfInBounds_toArray, List.set_cons_zero, List.set_cons_succ])
  refine schT_take (.int .u64 (nn : Int)) rfl (fun u _ => conv64 u nn hnn _ _ rfl rfl) ?_
  simp only [Act.put, List.setIfInBounds_toArray, List.set_cons_zero, List.set_cons_succ]
  refine schT_call rfl ?_
  intro K hK
  go_simp
  refine (word_is _ _ [] nn 4 (Byt.nil _) (by omega) (by omega) (by simp)).mono ?_
  rintro e w5 ⟨v5, rfl, hown5, hb5⟩
  go_wp2_with fail
  refine hK _ _ hb5 ?_
  clear hK K
  have HP5 := Lib.hid (HP4.out.below hb5)
  have HO5 := Lib.hid hown5
  obtain ⟨A5, n5, c5, rfl, N5, hnc5, hcm5⟩ := hown5.byt.form
  clear hown5 hb5
  refine schT_nil ?_
  refine schT_last rfl rfl ?_
  refine wp_copyO 30 (.tmp 25) (.tmp 29) rfl rfl w0.heap.size 4 4096 4096 4 4092 _ (wordB 4 nn) _ rfl rfl HP5.out.own HO5.out.byt (by rw [wordB_len]; omega) (by omega) ?_
  intro w6 hown6 ht6 hs6
  have HP6 : Hid (PgSt w w6.drew w.heap.size w0.heap.size k nn (.slice A m c) ([84, 77, 1, UInt8.ofNat k] ++ (wordB 4 nn ++ zsB 4088))) := by
    have := HP5.out.row hown6 ht6
    rw [row3] at this
    exact this.below (Below.refl _ _).drew
  clear hown6 ht6 hs6
  go_wp2_with fail
  refine wp_region_T (R := fun x y => x = y) (by kernel_rfl) (fun _ => rfl) (fun h k => h.trans k) (by kernel_rfl) 4 rfl (by kernel_rfl) (by kernel_rfl) (fun d v c a w h => by cases d <;> exact h)
    [(0, false), (1, false), (2, false), (3, false)] rfl (by kernel_rfl) ?_
  simp only [sel, List.getElem?_toArray, List.getElem?_cons_succ, List.getElem?_cons_zero]
  generalize HG6 : w6.drew = wd6 at *
  iterate 3 (refine schT_take ?_ rfl ?_ ?_; rotate_left; (focus (intro u hu; go_simp <;> rfl)); simp only [Act.put, List.setIfInBounds_toArray, List.set_cons_zero, List.set_cons_succ])
  (refine schT_take ?_ rfl ?_ ?_; rotate_left; (focus (intro u hu; have c2 := (hu ▸ HP6.out).box.cells.2.2; clear hu; go_simp <;> rfl)); simp only [Act.put, List.setIfInBounds_toArray, List.set_cons_zero, List.set_cons_succ])
  refine schT_nil ?_
  refine schT_last rfl rfl ?_
  refine wp_copyO 35 (.tmp 32) (.tmp 34) rfl rfl w0.heap.size 16 4096 4096 4080 4080 _ l _ rfl rfl HP6.out.own (HV.out.below HP6.out.bel) HL.out (by omega) ?_
  intro w7 hown7 ht7 hs7
  have HP7 : Hid (PgSt w w7.drew w.heap.size w0.heap.size k nn (.slice A m c) (headB k nn ++ (zsB 4 ++ padB l))) := by
    have := HP6.out.row hown7 ht7
    rw [row4 k nn HL.out] at this
    exact this.below (Below.refl _ _).drew
  clear hown7 ht7 hs7
  go_wp2_with fail
  refine wp_region_T (R := fun x y => Below x.heap.size x y) (by kernel_rfl) (fun _ => Below.refl _ _) (fun h k => h.trans (k.mono h.size)) (by kernel_rfl) 4 rfl (by kernel_rfl) (by kernel_rfl) (fun d v c a w h => by cases d <;> exact h)
    [(0, false), (1, false), (2, false), (3, true)] rfl (by kernel_rfl) ?_
  simp only [sel, List.getElem?_toArray, List.getElem?_cons_succ, List.getElem?_cons_zero]
  generalize HG7 : w7.drew = wd7 at *
  iterate 3 (refine schT_take ?_ rfl ?_ ?_; rotate_left; (focus (intro u hu; go_simp <;> rfl)); simp only [Act.put, List.setIfInBounds_toArray, List.set_cons_zero, List.set_cons_succ])
  refine schT_call rfl ?_
  intro K hK
  go_simp
  refine (pgsum_any _ _ _ HP7.out.own.byt HP7.out.len).mono ?_
  rintro e w8 ⟨v8, rfl, hown8, hb8⟩
  go_wp2_with fail
  refine hK _ _ hb8 ?_
  clear hK K
  have HP8 := Lib.hid (HP7.out.below hb8)
  have HO8 := Lib.hid hown8
  obtain ⟨A8, n8, c8, rfl, N8, hnc8, hcm8⟩ := hown8.byt.form
  clear hown8 hb8
  refine schT_nil ?_
  refine schT_last rfl rfl ?_
  refine wp_copyO 40 (.tmp 37) (.tmp 39) rfl rfl w0.heap.size 12 4096 4096 4 4084 _ _ _ rfl rfl HP8.out.own HO8.out.byt (by rw [wordB_len]; omega) (by omega) ?_
  intro w9 hown9 ht9 hs9
  have HP9 : Hid (PgSt w w9 w.heap.size w0.heap.size k nn (.slice A m c) (pageB k nn l)) := by
    have := HP8.out.row hown9 ht9
    rw [row5] at this
    exact this
  clear hown9 ht9 hs9
  go_wp2_with fail
  go_ret2
  exact ⟨_, rfl, HP9.out.own.lift HP9.out.hg, HP9.out.bel⟩
end Go.Proofs.YtagchbpofoidmaaDoor
