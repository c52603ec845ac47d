/-
  Package chain's Read by its contract. Conditions: no fault, no pins; pages lead to the pool's pages alone; at most 2^30 pages.
-/
import Derived.Test.YtknagdbhhfelnaaDoorCCnJ
namespace Go.Proofs.YtknagdbhhfelnaaDoor
open Go.RowKit Go.Shelf Go.Maps
set_option maxRecDepth 100000
attribute [local go_sem] Oper.semAt_some
set_option linter.unusedVariables false

/-- links: its arguments boxed; the function value captures the boxes. -/
theorem clinks_any (w : World) (p q2 : Nat) (k head : Int) : Calls Tryd.prog 28 #[.pointer (some ⟨p, 0, none⟩), .int .i64 k, .int .i64 head, .pointer (some ⟨q2, 0, none⟩)] w fun e w' =>
    e = .returned (.func (.func 49) #[] #[.pointer (some ⟨w.heap.size + 2, 0, none⟩), .pointer (some ⟨w.heap.size, 0, none⟩), .pointer (some ⟨w.heap.size + 3, 0, none⟩), .pointer (some ⟨w.heap.size + 1, 0, none⟩)]) ∧
    w' = (((w.alloc (.cells #[.pointer (some ⟨p, 0, none⟩)] 33)).alloc (.cells #[.int .i64 k] 3)).alloc (.cells #[.int .i64 head] 3)).alloc (.cells #[.pointer (some ⟨q2, 0, none⟩)] 69) := by
  go_enter Tryd.func28, Tryd.ntmps28
  go_wp2
  go_ret
  exact ⟨rfl, rfl⟩

section
variable (w : World) (T0 : Nat → Prop) (p d fb n m : Nat) (has : Nat → List UInt8) (q k head most : Nat)
/-- In a round, the loop's own variable boxed at y. -/
def RdA (pre : List Lk) (e : Lk) (y : Nat) (W : World) : Prop := RdY w T0 p d fb n m has q k head most pre e W ∧ LkBox W y e.nx e.v ∧ q + 9 ≤ y
/-- A round left. -/
def RdX (c : Code) (W : World) : Prop := c = .exit 1 ∧ ∃ T, RdFix w W T0 p d fb n m has q k head most T ∧ SBox W (q + 2) 23 [.int .i64 4] ∧ readT has k most [] [] head = none ∧ q + 9 ≤ W.heap.size
end
/-- How Read ends. -/
def ReadEnd (w : World) (r : Option (List UInt8 × List Nat)) (e : Ending) (w' : World) (T' : Nat → Prop) : Prop := match r with
  | none => e = .returned (.tuple #[.slice none 0 0, .slice none 0 0, .int .i64 4])
  | some (b, ps) => ∃ bv pv, e = .returned (.tuple #[bv, pv, .int .i64 0]) ∧ Own w' w.heap.size 5 bv b ∧ OwnV w' w.heap.size 3 pv (natC ps) ∧ (∀ g, bv.ownBlock = some g → ¬ T' g) ∧ (∀ g, pv.ownBlock = some g → ¬ T' g)
/-- What Read leaves. -/
def ReadO (w : World) (T0 : Nat → Prop) (p d fb n m : Nat) (has : Nat → List UInt8) (r : Option (List UInt8 × List Nat)) (e : Ending) (w' : World) : Prop :=
  ∃ T', PlT w' T' p d fb n m has ∧ (∀ j, T' j → more T0 w w' j) ∧ Trn T0 w w' ∧ ReadEnd w r e w' T'
section
variable {w W W' : World} {T0 T T1 : Nat → Prop} {p d fb n m q k head most er : Nat} {has : Nat → List UInt8} {pre : List Lk} {bv pv : Value} {e : Lk} {y : Nat}
theorem RdMem.calm (h : RdMem w T0 p d fb n m has q k head most er pre T bv pv W) (o : Obj) (j : Nat) (hj : j = q + 7 ∨ j = q + 8) : RdMem w T0 p d fb n m has q k head most er pre T bv pv (W.putObj j o) := ⟨h.1.calm o j hj, h.2.1.calm o j hj, by have := (trn_putObj (W := W) o j).size; have := h.2.2; omega⟩
theorem LkBox.calm {g : Nat} {x : Int} {v : Value} (h : LkBox W g x v) (hg : q + 9 ≤ g) (o : Obj) (j : Nat) (hj : j = q + 7 ∨ j = q + 8) : LkBox (W.putObj j o) g x v := SBox.trn h (trn_putObj o j) (fun e => by omega)
theorem RdMem.out_ok {er : Nat} (h : RdMem w T0 p d fb n m has q k head most er pre T bv pv W) (o : Obj) (j : Nat) (hj : j = q + 7 ∨ j = q + 8) : ReadO w T0 p d fb n m has (some (btsL pre, pgsL pre)) (.returned (.tuple #[bv, pv, .int .i64 0])) (W.putObj j o) := by
  have hc := h.calm o j hj
  have hs := h.1.sq
  exact ⟨T, hc.1.pool, hc.1.mo, hc.1.tr, bv, pv, rfl, hc.2.1.ob.lower (by omega), OwnV.lower hc.2.1.op (by omega), hc.2.1.bo, hc.2.1.po⟩
theorem RdFix.out_bad (h : RdFix w W T0 p d fb n m has q k head most T) (o : Obj) (j : Nat) (hj : j = q + 7 ∨ j = q + 8) : ReadO w T0 p d fb n m has none (.returned (.tuple #[.slice none 0 0, .slice none 0 0, .int .i64 4])) (W.putObj j o) := by
  have hc := h.calm o j hj
  exact ⟨T, hc.pool, hc.mo, hc.tr, rfl⟩
theorem RdI.calm (h : RdI w T0 p d fb n m has q k head most pre W) (o : Obj) (j : Nat) (hj : j = q + 7 ∨ j = q + 8) : RdI w T0 p d fb n m has q k head most pre (W.putObj j o) := by
  obtain ⟨a, T, bv, pv, b, c⟩ := h
  exact ⟨a, T, bv, pv, b.calm o j hj, fun e he => ⟨(c e he).1.calm (c e he).2.1 o j hj, (c e he).2⟩⟩
theorem RdY.calm (h : RdY w T0 p d fb n m has q k head most pre e W) (o : Obj) (j : Nat) (hj : j = q + 7 ∨ j = q + 8) : RdY w T0 p d fb n m has q k head most pre e (W.putObj j o) := by
  obtain ⟨a, T, bv, pv, b, c, A, cc, d1, d2, d3⟩ := h
  exact ⟨a, T, bv, pv, b.calm o j hj, ⟨c.1.calm c.2.1 o j hj, c.2⟩, A, cc, d1, ownB_trn d2 (trn_putObj o j) (fun g hg e2 => by have := (World.ownsRow.lt d2 g hg).1; omega), d3⟩
theorem RdY.below (h : RdY w T0 p d fb n m has q k head most pre e W) (hb : Below W.heap.size W W') : RdY w T0 p d fb n m has q k head most pre e W' := by
  obtain ⟨a, T, bv, pv, b, c, A, cc, d1, d2, d3⟩ := h
  exact ⟨a, T, bv, pv, b.below hb, ⟨c.1.below hb, c.2⟩, A, cc, d1, d2.keep hb, d3⟩
theorem RdY.size (h : RdY w T0 p d fb n m has q k head most pre e W) : q + 9 ≤ W.heap.size := by
  obtain ⟨a, T, bv, pv, b, c⟩ := h
  exact b.2.2
theorem RdD.calm (h : RdD w T0 p d fb n m has q k head most W) (o : Obj) (j : Nat) (hj : j = q + 7 ∨ j = q + 8) : RdD w T0 p d fb n m has q k head most (W.putObj j o) := by
  rcases h with ⟨pre, T, bv, pv, a, b⟩ | ⟨pre, T, bv, pv, a, b⟩
  · exact .inl ⟨pre, T, bv, pv, a.calm o j hj, b⟩
  · exact .inr ⟨pre, T, bv, pv, a.calm o j hj, b⟩
theorem RdX.calm {c : Code} (h : RdX w T0 p d fb n m has q k head most c W) (o : Obj) (j : Nat) (hj : j = q + 7 ∨ j = q + 8) : RdX w T0 p d fb n m has q k head most c (W.putObj j o) := by
  obtain ⟨a, T, b, c, d, e⟩ := h
  exact ⟨a, T, b.calm o j hj, SBox.trn c (trn_putObj o j) (fun e => by omega), d, by have := (trn_putObj (W := W) o j).size; omega⟩
end
def rdAct (p k head most s q : Nat) (e : Lk) (y : Nat) : Act := { tmps := #[.pointer (some ⟨p, 0, none⟩), .int .i64 (k : Int), .int .i64 (head : Int), .int .i64 (most : Int), undef, undef, undef, .pointer (some ⟨s, 0, none⟩), .slice none 0 0, .slice none 0 0, .int .i64 0, .pointer (some ⟨q, 0, none⟩), .pointer (some ⟨q + 1, 0, none⟩), .pointer (some ⟨q + 1 + 1, 0, none⟩),
  .int .i64 (e.n : Int), .pointer (some ⟨y, 0, none⟩), undef, .bool false, .pointer (some ⟨p, 0, none⟩), .bool true, .bool false, .bool (decide ((head : Int) < 2)), .int .i64 (k : Int), .bool true, .bool false, .bool false, .int .i64 (head : Int), .bool (decide ((head : Int) < 2)), .bool (decide ((head : Int) < 2)), .pointer (some ⟨p, 0, none⟩), .int .i64 (k : Int), .int .i64 (head : Int),
  .func (.func 49) #[] #[.pointer (some ⟨q + 5, 0, none⟩), .pointer (some ⟨q + 3, 0, none⟩), .pointer (some ⟨q + 6, 0, none⟩), .pointer (some ⟨q + 4, 0, none⟩)], .int .i64 (e.n : Int), .agg #[.int .i64 (e.nx : Int), e.v],
  undef, undef, undef, undef, undef, undef, undef, undef, undef, undef, undef, undef, undef, undef, undef, undef, undef, undef, undef, undef, undef, undef, undef, undef], defers := [] }

set_option maxRecDepth 100000 in
set_option maxHeartbeats 8000000 in
theorem cread_is (w : World) (T : Nat → Prop) (p d fb n m : Nat) (has : Nat → List UInt8) (k head most : Nat) (h : PlT w T p d fb n m has) (hk : k = 2 ∨ k = 3 ∨ k = 7) (hh : 2 ≤ head) (hn : head < n) (hcl : Closed has k n) (hmost : most ≤ 1000000) :
    Calls Tryd.prog 8 #[.pointer (some ⟨p, 0, none⟩), .int .i64 (k : Int), .int .i64 (head : Int), .int .i64 (most : Int)] w (ReadO w T p d fb n m has (readT has k most [] [] head)) := by
  obtain ⟨i0, hi0, hz0, hz1, hz2⟩ := info_parts iinfo
  obtain ⟨i1, hi1, hy0, hy1, hy2⟩ := info_parts uinfo
  obtain ⟨w0, hw0⟩ : ∃ w0, w.alloc (.cells #[.int .i64 (most : Int)] 3) = w0 := ⟨_, rfl⟩
  have hb0 : Below w.heap.size w w0 := hw0 ▸ below_new w _
  have hm0 : SBox w0 w.heap.size 3 [.int .i64 (most : Int)] := hw0 ▸ SBox.new w 3 [.int .i64 (most : Int)]
  obtain ⟨P, hP, hTI⟩ := h.below hb0
  have HMD := Lib.hid (cmade_is hP)
  have HKI := Lib.hid fun W => ckind_any (k : Int) W
  rw [show ((k : Int) == 2 || (k : Int) == 3 || (k : Int) == 7) = true by rcases hk with rfl | rfl | rfl <;> rfl] at HKI
  have HPT := Lib.hid h
  have HW0 := Lib.hid hw0
  have HB0 := Lib.hid hb0
  have HM0 := Lib.hid hm0
  have HN := Lib.hid hn
  have hh2 : ¬ (head : Int) < 2 := by omega
  clear h hk hh hP hTI hw0 hb0 hm0 hn
  refine (callsIn_wide (n := 3)).1 ?_
  refine callsIn_of_wp_marks Tryd.func8 rfl trivial ?_ rfl
  simp only [Tryd.ntmps8, List.size_toArray, List.length_cons, List.length_nil, Nat.reduceAdd, Nat.reduceSub, Array.replicate_succ, Array.replicate_zero, List.push_toArray, List.append_toArray, List.nil_append, List.cons_append]
  refine wpIn_wide.2 ?_
  go_wp2_with fail
  rw [HW0.out]
  go_wp2_with fail
  refine HMD.out.mono ?_
  rintro e w1 ⟨rfl, hb1⟩
  have HM1 := Lib.hid (HM0.out.below hb1)
  have HB1 : Hid (Below w.heap.size w w1) := HB0.out.trans (hb1.mono HB0.out.size)
  clear hb1
  go_wp2_with fail
  refine (HKI.out w1).mono ?_
  rintro e w1' ⟨rfl, rfl⟩
  go_wp2_with fail
  generalize hq : w1.heap.size = q at *
  obtain ⟨w2, hw2⟩ : ∃ w2, ((w1.alloc (.cells #[.slice none 0 0] 27)).alloc (.cells #[.slice none 0 0] 26)).alloc (.cells #[.int .i64 0] 23) = w2 := ⟨_, rfl⟩
  rw [hw2]
  have hz2' : w2.heap.size = q + 3 := by rw [← hw2]; simp only [World.size_alloc]; omega
  have hb2 : Below q w1 w2 := by rw [← hw2, ← hq]; exact (below_new w1 _).trans (((below_new _ _).mono (by simp)).trans ((below_new _ _).mono (by simp only [World.size_alloc]; omega)))
  have h21 : SBox w2 q 27 [.slice none 0 0] := by rw [← hw2, ← hq]; exact ((SBox.new w1 27 [.slice none 0 0]).alloc _).alloc _
  have h22 : SBox w2 (q + 1) 26 [.slice none 0 0] := by
    have := (SBox.new (w1.alloc (.cells #[.slice none 0 0] 27)) 26 [.slice none 0 0]).alloc (.cells #[.int .i64 0] 23)
    rw [World.size_alloc, hq] at this
    rw [← hw2]
    exact this
  have h23 : SBox w2 (q + 2) 23 [.int .i64 0] := by
    have := SBox.new ((w1.alloc (.cells #[.slice none 0 0] 27)).alloc (.cells #[.slice none 0 0] 26)) 23 [.int .i64 0]
    rw [World.size_alloc, World.size_alloc, hq] at this
    rw [← hw2]
    exact this
  refine (clinks_any w2 p (q + 2) (k : Int) (head : Int)).mono ?_
  rintro e w3 ⟨rfl, hw3⟩
  rw [show w2.heap.size + 2 = q + 5 by omega, show w2.heap.size + 3 = q + 6 by omega, show w2.heap.size + 1 = q + 4 by omega, hz2']
  have hz3 : w3.heap.size = q + 7 := by rw [hw3]; simp only [World.size_alloc]; omega
  have hb3 : Below w2.heap.size w2 w3 := by rw [hw3]; exact (below_new w2 _).trans (((below_new _ _).mono (by simp)).trans (((below_new _ _).mono (by simp only [World.size_alloc]; omega)).trans ((below_new _ _).mono (by simp only [World.size_alloc]; omega))))
  have h33 : SBox w3 (q + 3) 33 [.pointer (some ⟨p, 0, none⟩)] := by rw [hw3, ← hz2']; exact (((SBox.new w2 33 [.pointer (some ⟨p, 0, none⟩)]).alloc _).alloc _).alloc _
  have h34 : SBox w3 (q + 4) 3 [.int .i64 (k : Int)] := by
    have := ((SBox.new (w2.alloc (.cells #[.pointer (some ⟨p, 0, none⟩)] 33)) 3 [.int .i64 (k : Int)]).alloc (.cells #[.int .i64 (head : Int)] 3)).alloc (.cells #[.pointer (some ⟨q + 2, 0, none⟩)] 69)
    rw [World.size_alloc, hz2'] at this
    rw [hw3]
    exact this
  have h35 : SBox w3 (q + 5) 3 [.int .i64 (head : Int)] := by
    have := (SBox.new ((w2.alloc (.cells #[.pointer (some ⟨p, 0, none⟩)] 33)).alloc (.cells #[.int .i64 (k : Int)] 3)) 3 [.int .i64 (head : Int)]).alloc (.cells #[.pointer (some ⟨q + 2, 0, none⟩)] 69)
    rw [World.size_alloc, World.size_alloc, hz2'] at this
    rw [hw3]
    exact this
  have h36 : SBox w3 (q + 6) 69 [.pointer (some ⟨q + 2, 0, none⟩)] := by
    have := SBox.new (((w2.alloc (.cells #[.pointer (some ⟨p, 0, none⟩)] 33)).alloc (.cells #[.int .i64 (k : Int)] 3)).alloc (.cells #[.int .i64 (head : Int)] 3)) 69 [.pointer (some ⟨q + 2, 0, none⟩)]
    rw [World.size_alloc, World.size_alloc, World.size_alloc, hz2'] at this
    rw [hw3]
    exact this
  have hsq : w.heap.size < q := by have := HM1.out.lt; omega
  have hbw3 : Below w.heap.size w w3 := HB1.out.trans ((hb2.mono (by omega)).trans (hb3.mono (by omega)))
  have HI3 : Hid (∀ W, Below w3.heap.size w3 W → W.heap.size = w3.heap.size + 2 → RdI w T p d fb n m has q k head most [] W) := fun W hbW hzW => by
    have hbw : Below w.heap.size w W := hbw3.trans (hbW.mono hbw3.size)
    have hlt := HPT.out.lt
    refine ⟨PlainI.nil HN.out, T, .slice none 0 0, .slice none 0 0, ⟨⟨?_, h33.below hbW, h34.below hbW, h35.below hbW, h36.below hbW, HPT.out.below hbw, fun j hj => .inl (hlt j hj), fun j hj => .inl hj, Trn.of_below hbw, hsq⟩,
      ⟨(h21.below hb3).below hbW, World.ownsRow_nil _ _ _ 1, (h22.below hb3).below hbW, World.ownsRow_nil _ _ _ 1, (h23.below hb3).below hbW, fun g hg => (by cases hg), fun g hg => (by cases hg)⟩, by omega⟩, fun e he => (by cases he)⟩
    exact (SBox.below (SBox.below (HM1.out.same (hb2.block _ (by omega))) hb3) hbW)
  have HSQ : Hid (SeqRuns Fence.wide 2 Tryd.prog 49 #[.pointer (some ⟨q + 5, 0, none⟩), .pointer (some ⟨q + 3, 0, none⟩), .pointer (some ⟨q + 6, 0, none⟩), .pointer (some ⟨q + 4, 0, none⟩)] encsL w3.heap.size (RdI w T p d fb n m has q k head most) (RdY w T p d fb n m has q k head most) (RdD w T p d fb n m has q k head most)) := by
    rw [Hid, hz3]
    exact links1_runs w T p d fb n m has q k head most hcl (by omega)
  have HZ3 := Lib.hid hz3
  have HSQ2 := Lib.hid hsq
  clear hw2 hz2' hb2 h21 h22 h23 hw3 hz3 hb3 h33 h34 h35 h36 hsq hbw3 HM1 HB1 HM0 HB0 HW0 HMD HKI
  go_wp2_with fail
  refine (wpIn_wide (n := 3)).1 ?_
  refine wpIn_rangeFunc_E rfl (by omega) (gf := 49) rfl trivial (enters_of Tryd.func49 (by kernel_rfl) rfl) (encs := encsL) (fun _ => rfl)
    (RdI w T p d fb n m has q k head most) (RdY w T p d fb n m has q k head most) (fun pre e a' W => ∃ y, a' = rdAct p k head most w.heap.size q e y ∧ RdA w T p d fb n m has q k head most pre e y W) (RdD w T p d fb n m has q k head most) (RdX w T p d fb n m has q k head most)
    HSQ.out (fun s W r r' h _ => h.calm _ _ (by have := HZ3.out; omega))
    (fun pre e s W r r' h _ => by
      obtain ⟨y, h1, h2, h3, h4⟩ := h
      have hj : w3.heap.size + 1 = q + 7 ∨ w3.heap.size + 1 = q + 8 := by have := HZ3.out; omega
      exact ⟨y, h1, h2.calm _ _ hj, h3.calm h4 _ _ hj, h4⟩)
    (fun s W r r' h _ => h.calm _ _ (by have := HZ3.out; omega)) (fun s W r r' h _ => h.calm _ _ (by have := HZ3.out; omega)) HI3.out ?assign ?body ?done ?stop
  case assign =>
    rintro pre ⟨en, nx, v, x, z⟩ W K hy hK
    obtain ⟨A, c, hv⟩ : ∃ A c, v = .slice A x.length c := by
      obtain ⟨_, _, _, _, _, _, A, c, hv, _⟩ := hy
      exact ⟨A, c, hv⟩
    subst hv
    have HY := Lib.hid hy
    have HK := Lib.hid hK
    clear hy hK
    simp only [encsL]
    gi_wp2_with (first
      | (refine wpListIn_storeS (SBox.new W 63 [.int .i64 0, .slice none 0 0]) lkInfo rfl (.tmp 15) (.tmp 34) rfl rfl (ds := [.int .i64 (nx : Int), .slice A x.length c]) rfl rfl (one_lk _ _ _ _) ?_; intro W3 hs3 hg3 hz3
         have HB3 : Hid (Below W.heap.size W W3) := (below_new W _).grown hg3 (by simp) (fun j e => by cases e; exact Nat.le_refl _)
         have HS3 := Lib.hid hs3
         clear hs3 hg3 hz3))
    refine HK.out _ _ (book_below (by have := HY.out.size; have := HZ3.out; omega) HB3.out) ⟨W.heap.size, rfl, HY.out.below HB3.out, HS3.out, HY.out.size⟩
  case body =>
    rintro pre ⟨en, nx, v, x, z⟩ a' W ⟨y, rfl, ⟨⟨⟨hpl, h0, hen, ht⟩, T', bv, pv, hm, hzz, A, c, hv, hov, hvb⟩, hy, hyq⟩⟩
    simp only at hen ht hov hvb hv hy
    subst hv
    obtain ⟨hf, hr, hz9⟩ := hm
    obtain ⟨Ap, cp, hpv⟩ := ownsRow_form hr.op
    obtain ⟨Ab, cb, hbv⟩ := ownsRow_form hr.ob
    subst hpv hbv
    have hnl : (natC (pgsL pre)).length = pre.length := by rw [natC_len, pgsL_len]
    rw [hnl] at hr
    have hle := hpl.le
    have HLE := Lib.hid hle
    have HPL := Lib.hid hpl
    have HF := Lib.hid hf
    have HR := Lib.hid hr
    have HZ := Lib.hid hz9
    have HY := Lib.hid hy
    have HYQ := Lib.hid hyq
    have HOV := Lib.hid hov
    have HVB := Lib.hid hvb
    have HT := Lib.hid ht
    have HEN := Lib.hid hen
    have H0 := Lib.hid h0
    have HNL := Lib.hid hnl
    have cP := hr.bp.cell 0 _ rfl
    have HXL : Hid (x.length ≤ 4074) := by
      obtain ⟨h1, _, h2⟩ := told_some ht
      have h3 := toldOk_size h1
      rw [Hid, h2, h3.2.2]
      exact h3.1
    have HBL : Hid ((btsL pre).length ≤ 4398046511104) := by have := hpl.bl; rw [Hid]; omega
    have HZZ := Lib.hid hzz
    clear hpl hf hr hz9 hy hyq hov hvb ht hen h0 hnl hzz
    simp only [rdAct]
    gi_wp2_with (first
      | (gi_at_builtin; refine wpListIn_appV rfl (.tmp 35) (.tmp 37) _ rfl (q + 9) 3 8 i0 _ Tryd.underlying26 hi0 hz0 hz1 hz2 rfl _ (natC (pgsL pre)) rfl (OwnV.keep HR.out.op (below_new W _)) _ [.int .i64 (en : Int)] rfl (Rowz.litV W [.int .i64 (en : Int)] 3 (by simp [maxLen])) (by simp [Value.oneCell']) (by rw [HNL.out]; have := HLE.out; simp only [List.length_cons, List.length_nil]; omega) (by rw [HNL.out]; have := HLE.out; simp only [List.length_cons, List.length_nil, maxLen]; omega) (by have := HZ.out; simp; omega) ?_; intro pv' W3 hown3 hg3 hat3
         obtain ⟨g5, c5, rfl, _, _, hcc5, hcm5, _, _⟩ := OwnV.form hown3 (by simp)
         have hml : (natC (pgsL pre) ++ [Value.int .i64 (en : Int)]).length = pre.length + 1 := by rw [List.length_append, HNL.out]; rfl
         have hown3' : OwnV W3 (q + 9) 3 (.slice (some ⟨g5, 0, none⟩) (natC (pgsL pre) ++ [Value.int .i64 (en : Int)]).length c5) (natC (pgsL pre ++ [en])) := by rw [natC_app]; exact hown3
         rw [hml] at hown3' hat3 hcc5 ⊢
         obtain ⟨ha1, ha2, ha3⟩ := HR.out.appP HF.out (by have := HZ.out; omega) hown3' hg3 hat3
         have HA1 := Lib.hid ha1
         have HA2 := Lib.hid ha2
         clear ha1 ha2 hown3 hown3' hg3 hat3)
      | (refine wpListIn_put1 26 rfl (.tmp 12) (.tmp 38) rfl 0 (.slice (some ⟨g5, 0, none⟩) (pre.length + 1) c5) rfl rfl rfl info1I _ (ha3.cell 0 _ rfl) (ha3.frozen 0) ?_; intro W4 hW4
         rw [← hW4] at HA1 HA2
         have hYp : ∀ j, (j = q + 1 ∨ (Value.slice Ap pre.length cp).ownBlock = some j) → j = q ∨ j = q + 1 ∨ j = q + 2 ∨ (q + 9 ≤ j ∧ ¬ T' j) := fun j e => e.elim (fun e => .inr (.inl e)) (fun e => .inr (.inr (.inr ⟨(World.ownsRow.lt HR.out.op j e).1, HR.out.po j e⟩)))
         have HF4 := Lib.hid (HF.out.step HA2.out hYp)
         have HBK4 := Lib.hid (HF.out.book (by have := HZ.out; omega) HA2.out hYp)
         have HZ4 : Hid (q + 9 ≤ W4.heap.size) := Nat.le_trans HZ.out HA2.out.size
         have HY4 : Hid (LkBox W4 y nx (.slice A x.length c)) := SBox.trn HY.out HA2.out (fun e => e.elim (fun e => by have := HYQ.out; omega) (fun e => by
           obtain ⟨c1, f1, g1⟩ := ownsRow_tag HR.out.op y e
           exact tag_ne g1 HY.out (by decide) rfl))
         have HZZ4 : Hid (LkBox W4 z nx (.slice A x.length c)) := SBox.trn HZZ.out.1 HA2.out (fun e => e.elim (fun e => by have h9 : q + 9 ≤ z := HZZ.out.2.1; omega) (fun e => by
           obtain ⟨c1, f1, g1⟩ := ownsRow_tag HR.out.op z e
           exact tag_ne g1 HZZ.out.1 (by decide) rfl))
         have HOV4 : Hid (Own W4 (q + 9) 5 (.slice A x.length c) x) := ownB_trn HOV.out HA2.out (fun g hg e => e.elim (fun e => by have := (World.ownsRow.lt HOV.out g hg).1; omega) (fun e => by
           obtain ⟨c1, f1, g1⟩ := ownsRow_tag HR.out.op g e
           obtain ⟨c2, f2, g2⟩ := ownsRow_tag HOV.out g hg
           exact tag_ne g1 g2 (by decide) rfl))
         have cP4 := HA1.out.bp.cell 0 _ rfl
         have cy0 := LkBox.c0 HY4.out
         have cy1 := LkBox.c1 HY4.out
         have cM4 := HF4.out.bm.cell 0 _ rfl
         have cB4 := HA1.out.bb.cell 0 _ rfl
         have cE4 : W4.cell? ⟨q + 1 + 1, 0, none⟩ = some (.int .i64 0) := HA1.out.bf.cell 0 _ rfl
         have fE4 : W4.frozen? ⟨q + 1 + 1, 0, none⟩ = false := HA1.out.bf.frozen 0
         clear hW4 ha3 hYp cP))
    refine ⟨trivial, ?_⟩
    refine (CallsIn.inRound (w3.heap.size + 1) (callsIn_wide.2 (icontains_any W4 (some ⟨g5, 0, none⟩) (pre.length + 1) c5 (pgsL pre ++ [en]) nx (OwnV.rowz HA1.out.op) (by rw [List.length_append, pgsL_len]; have := HLE.out; simp; omega)))).mono ?_
    rintro e W4' ⟨rfl, rfl⟩
    have hYe : ∀ j, j = q + 2 → j = q ∨ j = q + 1 ∨ j = q + 2 ∨ (q + 9 ≤ j ∧ ¬ T' j) := fun j e => .inr (.inr (.inl e))
    have HBAD : Hid (∀ (hr0 : readT has k most [] [] head = none) W5, W5 = W4.setCell ⟨q + 1 + 1, 0, none⟩ (.int .i64 4) → BookSame w3.heap.size W W5 ∧ RdX w T p d fb n m has q k head most (.exit 1) W5) := fun hr0 W5 e5 => by
      obtain ⟨b1, b2⟩ := HA1.out.setF 4
      have e6 : W5 = W4.setCell ⟨q + 2, 0, none⟩ (.int .i64 ((4 : Nat) : Int)) := e5
      rw [← e6] at b1 b2
      rw [HZ3.out]
      exact ⟨HBK4.out.trans (HF4.out.book (by have := HZ4.out; omega) b2 hYe), rfl, T', HF4.out.step b2 hYe, b1.bf, hr0, Nat.le_trans HZ4.out b2.size⟩
    by_cases hin : nx ∈ pgsL pre ++ [en]
    · have hd : decide (nx ∈ pgsL pre ++ [en]) = true := decide_eq_true hin
      rw [hd]
      have HRT : Hid (readT has k most [] [] head = none) := HPL.out.circle H0.out (by rw [← HEN.out]; exact HT.out) (by rw [← HEN.out]; exact hin)
      clear hin hd
      gi_wp2
      exact HBAD.out HRT.out _ rfl
    · have hd : decide (nx ∈ pgsL pre ++ [en]) = false := decide_eq_false hin
      rw [hd]
      have HIN := Lib.hid hin
      clear hin hd
      by_cases hmo : most < pre.length + 1
      · have hmo' : (most : Int) < (pre.length : Int) + 1 := by omega
        have HRT : Hid (readT has k most [] [] head = none) := HPL.out.more H0.out (by omega)
        gi_wp2
        exact HBAD.out HRT.out _ rfl
      · have hmo' : ¬ (most : Int) < (pre.length : Int) + 1 := by omega
        gi_wp2_with (first
          | (gi_at_builtin; refine wpListIn_appB rfl (.tmp 50) (.tmp 52) _ rfl (q + 9) 5 i1 _ Tryd.underlying27 hi1 hy0 hy1 hy2 rfl _ (btsL pre) rfl HA1.out.ob _ x rfl HOV4.out.byt (by have := HBL.out; have := HXL.out; omega) HZ4.out ?_; intro bv' W5 hown5 hg5 hat5
             obtain ⟨A5, c5b, hb5⟩ := ownsRow_form hown5
             subst hb5
             obtain ⟨hc1, hc2, hc3⟩ := HA1.out.appB HF4.out (by have := HZ4.out; omega) hown5 hg5 hat5
             have HC1 := Lib.hid hc1
             have HC2 := Lib.hid hc2
             clear hc1 hc2 hown5 hg5 hat5)
          | (refine wpListIn_put1 27 rfl (.tmp 11) (.tmp 53) rfl 0 (.slice A5 (btsL pre ++ x).length c5b) rfl rfl rfl (by kernel_rfl) _ (hc3.cell 0 _ rfl) (hc3.frozen 0) ?_; intro W6 hW6
             rw [← hW6] at HC1 HC2
             clear hW6 hc3))
        have hYb : ∀ j, (j = q ∨ (Value.slice Ab (btsL pre).length cb).ownBlock = some j) → j = q ∨ j = q + 1 ∨ j = q + 2 ∨ (q + 9 ≤ j ∧ ¬ T' j) := fun j e => e.elim (fun e => .inl e) (fun e => .inr (.inr (.inr ⟨(World.ownsRow.lt HA1.out.ob j e).1, HA1.out.bo j e⟩)))
        have hbk : BookSame w3.heap.size W W6 := by
          rw [HZ3.out]
          exact HBK4.out.trans (HF4.out.book (by have := HZ4.out; omega) HC2.out hYb)
        refine ⟨hbk, HPL.out.step hcl H0.out HEN.out HT.out HIN.out (by omega), T', _, _, ⟨HF4.out.step HC2.out hYb, by rw [btsL_snoc, pgsL_snoc]; exact HC1.out, Nat.le_trans HZ4.out HC2.out.size⟩, fun e he => ?_⟩
        have hee : e = ⟨en, nx, .slice A x.length c, x, z⟩ := by simpa using he.symm
        subst hee
        refine ⟨SBox.trn HZZ4.out HC2.out (fun e => e.elim (fun e => absurd (show z = q from e) (by have h9 : q + 9 ≤ z := HZZ.out.2.1; omega)) (fun e => ?_)), HZZ.out.2⟩
        obtain ⟨c1, f1, g1⟩ := ownsRow_tag HA1.out.ob z e
        exact tag_ne g1 HZZ4.out (by decide) rfl
  case done =>
    rintro W hD hK
    rcases hD with ⟨pre, T', bv, pv, hm, hr⟩ | ⟨pre, T', bv, pv, hm, hr⟩
    · have HM : Hid (RdMem w T p d fb n m has q k head most 0 pre T' bv pv W.drew) := hm.below (Below.refl _ _).drew
      have HC1 : Hid (W.drew.cell? ⟨q, 0, none⟩ = some bv) := hm.2.1.bb.cell 0 _ rfl
      have HC2 : Hid (W.drew.cell? ⟨q + 1, 0, none⟩ = some pv) := hm.2.1.bp.cell 0 _ rfl
      have HKD : Hid (W.drew.heap[w3.heap.size]? = some (.deferred (some []))) := hK
      have HRR := Lib.hid hr
      have cE : W.cell? ⟨q + 1 + 1, 0, none⟩ = some (.int .i64 0) := hm.2.1.bf.cell 0 _ rfl
      clear hm hK hr
      go_wp2_with fail
      refine wp_onlyN ?_
      refine wp_region_R (R := fun x y => x = y) (by kernel_rfl) (fun _ => rfl) (fun h k => h.trans k) (by kernel_rfl) (fun d v c a w h => by cases d <;> exact h)
        [(0, false), (1, false), (2, false), (3, false), (4, false)] rfl (by kernel_rfl) (by kernel_rfl) ?_
      simp only [sel, List.getElem?_toArray, List.getElem?_cons_succ, List.getElem?_cons_zero]
      generalize W.drew = wd at *
      (refine sch_take ?_ rfl ?_ ?_; rotate_left; (focus (intro u hu; subst hu; have c1 := HC1.out; go_simp <;> rfl)); simp only [Act.put, List.setIfInBounds_toArray, List.set_cons_zero, List.set_cons_succ])
      (refine sch_take ?_ rfl ?_ ?_; rotate_left; (focus (intro u hu; subst hu; have c2 := HC2.out; go_simp <;> rfl)); simp only [Act.put, List.setIfInBounds_toArray, List.set_cons_zero, List.set_cons_succ])
      iterate 3 (refine sch_take ?_ rfl ?_ ?_; rotate_left; (focus (intro u hu; go_simp <;> rfl)); simp only [Act.put, List.setIfInBounds_toArray, List.set_cons_zero, List.set_cons_succ])
      refine sch_nilN ?_
      clear cE
      go_wp2_with fail
      refine ⟨by simp, .inl ⟨_, _, rfl, run_takeDeferred HKD.out, ?_⟩⟩
      refine ⟨_, results_tmp3 rfl _ _ _, ?_⟩
      rw [HRR.out]
      exact HM.out.out_ok _ _ (.inl HZ3.out)
    · have HM : Hid (RdFix w W.drew T p d fb n m has q k head most T') := hm.1.below (Below.refl _ _).drew
      have HC1 : Hid (W.drew.cell? ⟨q + 1 + 1, 0, none⟩ = some (.int .i64 4)) := hm.2.1.bf.cell 0 _ rfl
      have HKD : Hid (W.drew.heap[w3.heap.size]? = some (.deferred (some []))) := hK
      have HRR := Lib.hid hr
      have cE : W.cell? ⟨q + 1 + 1, 0, none⟩ = some (.int .i64 4) := hm.2.1.bf.cell 0 _ rfl
      clear hm hK hr
      go_wp2_with fail
      refine wp_onlyN ?_
      refine wp_region_R (R := fun x y => x = y) (by kernel_rfl) (fun _ => rfl) (fun h k => h.trans k) (by kernel_rfl) (fun d v c a w h => by cases d <;> exact h)
        [(0, false), (1, false), (2, false), (3, false)] rfl (by kernel_rfl) (by kernel_rfl) ?_
      simp only [sel, List.getElem?_toArray, List.getElem?_cons_succ, List.getElem?_cons_zero]
      generalize W.drew = wd at *
      (refine sch_take ?_ rfl ?_ ?_; rotate_left; (focus (intro u hu; subst hu; have c1 := HC1.out; go_simp <;> rfl)); simp only [Act.put, List.setIfInBounds_toArray, List.set_cons_zero, List.set_cons_succ])
      iterate 3 (refine sch_take ?_ rfl ?_ ?_; rotate_left; (focus (intro u hu; go_simp <;> rfl)); simp only [Act.put, List.setIfInBounds_toArray, List.set_cons_zero, List.set_cons_succ])
      refine sch_nilN ?_
      clear cE
      go_wp2_with fail
      refine ⟨by simp, .inl ⟨_, _, rfl, run_takeDeferred HKD.out, ?_⟩⟩
      refine ⟨_, results_tmp3 rfl _ _ _, ?_⟩
      rw [HRR.out]
      exact HM.out.out_bad _ _ (.inl HZ3.out)
  case stop =>
    rintro c W ⟨rfl, T', hf, hE, hr, hz⟩ hK
    have HM : Hid (RdFix w W.drew T p d fb n m has q k head most T') := hf.below (Below.refl _ _).drew
    have HC1 : Hid (W.drew.cell? ⟨q + 1 + 1, 0, none⟩ = some (.int .i64 4)) := hE.cell 0 _ rfl
    have HKD : Hid (W.drew.heap[w3.heap.size]? = some (.deferred (some []))) := hK
    have HRR := Lib.hid hr
    have cE : W.cell? ⟨q + 1 + 1, 0, none⟩ = some (.int .i64 4) := hE.cell 0 _ rfl
    clear hf hE hK hr
    refine wpIn_wide.2 ?_
    go_wp2_with fail
    refine wp_onlyN ?_
    refine wp_region_R (R := fun x y => x = y) (by kernel_rfl) (fun _ => rfl) (fun h k => h.trans k) (by kernel_rfl) (fun d v c a w h => by cases d <;> exact h)
      [(0, false), (1, false), (2, false), (3, false)] rfl (by kernel_rfl) (by kernel_rfl) ?_
    simp only [sel, List.getElem?_toArray, List.getElem?_cons_succ, List.getElem?_cons_zero]
    generalize W.drew = wd at *
    (refine sch_take ?_ rfl ?_ ?_; rotate_left; (focus (intro u hu; subst hu; have c1 := HC1.out; go_simp <;> rfl)); simp only [Act.put, List.setIfInBounds_toArray, List.set_cons_zero, List.set_cons_succ])
    iterate 3 (refine sch_take ?_ rfl ?_ ?_; rotate_left; (focus (intro u hu; go_simp <;> rfl)); simp only [Act.put, List.setIfInBounds_toArray, List.set_cons_zero, List.set_cons_succ])
    refine sch_nilN ?_
    clear cE
    go_wp2_with fail
    refine ⟨by simp, .inl ⟨_, _, rfl, run_takeDeferred HKD.out, ?_⟩⟩
    refine ⟨_, results_tmp3 rfl _ _ _, ?_⟩
    rw [HRR.out]
    exact HM.out.out_bad _ _ (.inl HZ3.out)
end Go.Proofs.YtknagdbhhfelnaaDoor
