/-
  The statement CrcTells: rows that differ in one byte alone, or in bits side by side, have unlike sums; sums go with exclusive or. Conditions: none.
-/
import Derived.Test.YthabjfnaghdenaaLives3
import Derived.Test.YthabjfnaghdenaaCrc2
import Derived.Test.YthabjfnaghdenaaNum
import Derived.Test.YthabjfnaghdenaaOpen
import Derived.Test.YthabjfnaghdenaaOrd
namespace Go.Proofs.Ythabjfnaghdenaa.crcTells
open Go.ChangeShapes Go.WideShapes Go.ChangeAt Go.RowKit
set_option linter.unusedVariables false

theorem wpList_min3 {P : Program} {ops : Array Oper} {rest : List Oper} {o : Oper} {a : Act} {w : World} {Q : Exit → Act → World → Prop} (hgd : o.guard = none) (x y z : Operand) (ts : Array TypeId)
    (ho : o.op = .call { callee := .builtin .min, args := #[x, y, z], argTypes := ts }) (m1 m2 m3 n : Nat) (hx : a.eval x = .int .i64 (m1 : Int)) (hy : a.eval y = .int .i64 (m2 : Int)) (hz : a.eval z = .int .i64 (m3 : Int))
    (hn : n = min (min m1 m2) m3) (h : wpList P ops Q rest (a.put o.dst (.int .i64 (n : Int))) w) : wpList P ops Q (o :: rest) a w := by
  refine wpList_plain hgd fun K hK => ?_
  have e : (if (m3 : Int) < (if (m2 : Int) < (m1 : Int) then (m2 : Int) else (m1 : Int)) then (m3 : Int) else (if (m2 : Int) < (m1 : Int) then (m2 : Int) else (m1 : Int))) = (n : Int) := by
    split <;> split at * <;> omega
  unfold Oper.wp execOp
  simp only [ho, resolve, invoke, builtin, Sem.run_bind, Sem.run_pure, Result.andThen_ok, List.map_toArray, List.map_cons, List.map_nil, hx, hy, hz, run_min_int3, e]
  exact hK _ _ h

set_option maxRecDepth 100000 in
set_option maxHeartbeats 4000000 in
theorem walk_long (w : World) (va : Value) (la : List UInt8) (vb : Value) (lb : List UInt8) (vc : Value) (lc : List UInt8) (z : Int) (q : Nat) (ha : Byt w va la) (hb : Byt w vb lb) (hc : Byt w vc lc) (hl : 3000 < min (min la.length lb.length) lc.length) :
    Calls Try.prog 6 #[va, vb, vc, .int .i64 z, .int .u32 (q : Int)] w fun e w' => e = .returned (.bool true) ∧ Below w.heap.size w w' := by
  obtain ⟨A, m, c, rfl, N, hnc, hcm⟩ := ha.form
  obtain ⟨A2, m2, c2, rfl, N2, hnc2, hcm2⟩ := hb.form
  obtain ⟨A3, m3, c3, rfl, N3, hnc3, hcm3⟩ := hc.form
  obtain ⟨n, hn⟩ : ∃ n, n = min (min m m2) m3 := ⟨_, rfl⟩
  have hm : (3000 : Int) < (n : Int) := by have h1 := N.out; have h2 := N2.out; have h3 := N3.out; omega
  have HN := Lib.hid hn
  clear ha hb hc hl hn
  go_enter Try.func6, Try.ntmps6
  go_wp2_with fail
  refine (lives3_any _).mono ?_
  rintro e w1 ⟨rfl, hb1⟩
  go_wp2_with (refine wpList_min3 rfl _ _ _ _ rfl _ _ _ n rfl rfl rfl HN.out ?_)
  go_ret
  exact ⟨rfl, hb1⟩

set_option maxRecDepth 100000 in
set_option maxHeartbeats 4000000 in
theorem walk_none (w : World) (va : Value) (la : List UInt8) (vb : Value) (lb : List UInt8) (vc : Value) (lc : List UInt8) (z : Int) (q : Nat) (ha : Byt w va la) (hb : Byt w vb lb) (hc : Byt w vc lc) (hl : min (min la.length lb.length) lc.length = 0) :
    Calls Try.prog 6 #[va, vb, vc, .int .i64 z, .int .u32 (q : Int)] w fun e w' => e = .returned (.bool true) ∧ Below w.heap.size w w' := by
  obtain ⟨A, m, c, rfl, N, hnc, hcm⟩ := ha.form
  obtain ⟨A2, m2, c2, rfl, N2, hnc2, hcm2⟩ := hb.form
  obtain ⟨A3, m3, c3, rfl, N3, hnc3, hcm3⟩ := hc.form
  have HN : Hid (0 = min (min m m2) m3) := by have h1 := N.out; have h2 := N2.out; have h3 := N3.out; exact (show 0 = min (min m m2) m3 by omega)
  clear ha hb hc hl
  go_enter Try.func6, Try.ntmps6
  go_wp2_with fail
  refine (lives3_any _).mono ?_
  rintro e w1 ⟨rfl, hb1⟩
  go_wp2_with (refine wpList_min3 rfl _ _ _ _ rfl _ _ _ 0 rfl rfl rfl HN.out ?_)
  go_ret
  exact ⟨rfl, hb1⟩

def MixRel (w : World) (la lb lc : List UInt8) (n : Nat) (x i : Value) (wr : World) : Prop :=
  ∃ k : Nat, k ≤ n ∧ i = .int .i64 (k : Int) ∧ Own wr w.heap.size 5 x (mixC (la.take k) (lb.take k) (lc.take k)) ∧ (mixC (la.take k) (lb.take k) (lc.take k)).length = k ∧ Below w.heap.size w wr

def YRel (w : World) (ll : List UInt8) (p q n : Nat) (vy : Value) (ch i : Value) (wr : World) : Prop :=
  ∃ j : Nat, j ≤ 4 ∧ p + j ≤ n ∧ i = .int .i64 (j : Int) ∧ ch = .bool (chC q j) ∧ Own wr w.heap.size 5 vy (yC ll p q j) ∧ Below w.heap.size w wr

theorem same_iff {a b : Nat} {c : Bool} (h : a = b ↔ c = false) : ((a : Int) == (b : Int)) = !c := by
  cases c
  · have : a = b := h.2 rfl
    subst this
    simp
  · have : a ≠ b := fun e => by have := h.1 e; simp at this
    simp
    omega
theorem own_cell {w : World} {B g n c : Nat} {l : List UInt8} (h : Own w B 5 (.slice (some ⟨g, 0, none⟩) n c) l) {j : Nat} (hj : j < l.length) : w.cell? ⟨g, j, none⟩ = some (.int .u8 ((l.getD j 0).toNat : Int)) := by
  have := World.ownsRow.cells h (g := g) rfl j (.int .u8 (l[j].toNat : Int)) (by simp [byc, hj])
  rw [plainAdd, Nat.zero_add] at this
  rw [this, List.getD_eq_getElem?_getD, List.getElem?_eq_getElem hj]
  rfl
theorem own_set {w : World} {B g n c : Nat} {l : List UInt8} (h : Own w B 5 (.slice (some ⟨g, 0, none⟩) n c) l) (hl : l.length = n) (j : Nat) (x : UInt8) :
    Own (w.setCell ⟨g, j, none⟩ (.int .u8 (x.toNat : Int))) B 5 (.slice (some ⟨g, 0, none⟩) n c) (l.set j x) := by
  unfold Own at h ⊢
  rw [List.length_set]
  rw [hl] at h ⊢
  have := World.ownsRow.stored h j (.int .u8 (x.toNat : Int))
  have e : byc (l.set j x) = (byc l).set j (.int .u8 (x.toNat : Int)) := by simp [byc, List.map_set]
  rw [e]
  exact this.1
theorem byte_xor (x y : UInt8) : bits .xor .u8 (x.toNat : Int) (y.toNat : Int) = ((x ^^^ y).toNat : Int) := by
  rw [u8_xor_nat _ _ (byte_lt x) (byte_lt y), UInt8.toNat_xor]

theorem xor3 (x y z : UInt8) : bits .xor .u8 (bits .xor .u8 (x.toNat : Int) (y.toNat : Int)) (z.toNat : Int) = ((x ^^^ y ^^^ z).toNat : Int) := by
  rw [u8_xor_nat _ _ (byte_lt x) (byte_lt y), u8_xor_nat _ _ (xor8_lt (byte_lt x) (byte_lt y)) (byte_lt z), UInt8.toNat_xor, UInt8.toNat_xor]

set_option maxRecDepth 100000 in
set_option maxHeartbeats 16000000 in
theorem walk_short (w : World) (va : Value) (la : List UInt8) (vb : Value) (lb : List UInt8) (vc : Value) (lc : List UInt8) (z : Int) (q : Nat) (ha : Byt w va la) (hb : Byt w vb lb) (hc : Byt w vc lc) (hq : q < 4294967296) (hl : min (min la.length lb.length) lc.length ≤ 3000) (hl0 : 0 < min (min la.length lb.length) lc.length) :
    Calls Try.prog 6 #[va, vb, vc, .int .i64 z, .int .u32 (q : Int)] w fun e w' => e = .returned (.bool true) ∧ Below w.heap.size w w' := by
  obtain ⟨i0, hi0, hz0, hz1, hz2⟩ := info_parts uinfo
  obtain ⟨A, m, c, rfl, N, hnc, hcm⟩ := ha.form
  obtain ⟨A2, m2, c2, rfl, N2, hnc2, hcm2⟩ := hb.form
  obtain ⟨A3, m3, c3, rfl, N3, hnc3, hcm3⟩ := hc.form
  obtain ⟨n, hn⟩ : ∃ n, n = min (min m m2) m3 := ⟨_, rfl⟩
  have hm : ¬ (3000 : Int) < (n : Int) := by have h1 := N.out; have h2 := N2.out; have h3 := N3.out; omega
  have hm0 : ((n : Int) == 0) = false := by rw [beq_eq_false_iff_ne]; have h1 := N.out; have h2 := N2.out; have h3 := N3.out; omega
  have hn0 : 0 < n := by have h1 := N.out; have h2 := N2.out; have h3 := N3.out; omega
  have hna : n ≤ la.length := by have h1 := N.out; omega
  have hnb : n ≤ lb.length := by have h1 := N2.out; omega
  have hncl : n ≤ lc.length := by have h1 := N3.out; omega
  have hn3 : n ≤ 3000 := by omega
  have HN := Lib.hid hn
  have HA := Lib.hid ha
  have HB := Lib.hid hb
  have HC := Lib.hid hc
  have HQ := Lib.hid hq
  clear ha hb hc hl hn hq hl0
  go_enter Try.func6, Try.ntmps6
  go_wp2_with fail
  refine (lives3_any _).mono ?_
  rintro e w1 ⟨rfl, hb1⟩
  have HB1 := Lib.hid hb1
  clear hb1
  go_wp2_with (refine wpList_min3 rfl _ _ _ _ rfl _ _ _ n rfl rfl rfl HN.out ?_)
  go_loopw [12, 13] (fun x i wr => MixRel w la lb lc n x i wr) (fun _ i _ => n - (intOf i).toNat)
  case atStart => exact ⟨0, by omega, rfl, World.ownsRow_nil _ _ _ _, rfl, HB1.out⟩
  case round =>
    obtain ⟨k, hk, rfl, hown, hlen, hbel⟩ := hrel
    have HO := Lib.hid hown
    have HL := Lib.hid hlen
    have HX := Lib.hid hbel
    clear hown hlen hbel
    by_cases hkn : k < n
    · have hkn' : (k : Int) < (n : Int) := by omega
      obtain ⟨b1, off1, rfl, hb1, hc1⟩ := HA.out.at (k := k) (by omega)
      obtain ⟨b2, off2, rfl, hb2, hc2⟩ := HB.out.at (k := k) (by omega)
      obtain ⟨b3, off3, rfl, hb3, hc3⟩ := HC.out.at (k := k) (by omega)
      have hk1 := hc1 k (by omega)
      have hk2 := hc2 k (by omega)
      have hk3 := hc3 k (by omega)
      have HM := Lib.hid (mixC_take la lb lc k (by omega) (by omega) (by omega))
      generalize la[k] = xa at *
      generalize lb[k] = xb at *
      generalize lc[k] = xc at *
      have X3 := xor3 xa xb xc
      generalize xa ^^^ xb ^^^ xc = xx at *
      have R1 : Hid (∀ u, Below w.heap.size wr.drew u → u.cell? ⟨b1, off1 + k, none⟩ = some (.int .u8 (xa.toNat : Int))) := fun u hu => ((HX.out.drew.trans hu).cell (p := ⟨b1, off1 + k, none⟩) hb1).trans hk1
      have R2 : Hid (∀ u, Below w.heap.size wr.drew u → u.cell? ⟨b2, off2 + k, none⟩ = some (.int .u8 (xb.toNat : Int))) := fun u hu => ((HX.out.drew.trans hu).cell (p := ⟨b2, off2 + k, none⟩) hb2).trans hk2
      have R3 : Hid (∀ u, Below w.heap.size wr.drew u → u.cell? ⟨b3, off3 + k, none⟩ = some (.int .u8 (xc.toNat : Int))) := fun u hu => ((HX.out.drew.trans hu).cell (p := ⟨b3, off3 + k, none⟩) hb3).trans hk3
      have h1m : (k : Int) < (m : Int) := by have := N.out; omega
      have h2m : (k : Int) < (m2 : Int) := by have := N2.out; omega
      have h3m : (k : Int) < (m3 : Int) := by have := N3.out; omega
      have HOd := Lib.hid (show Own wr.drew w.heap.size 5 _ _ from HO.out)
      have HXd := Lib.hid (show Below w.heap.size w wr.drew from HX.out.drew)
      clear hc1 hc2 hc3 hk1 hk2 hk3 hb1 hb2 hb3 HO HX
      generalize mixC (la.take k) (lb.take k) (lc.take k) = xs at *
      go_wp2_with fail
      refine wp_region_R (R := fun x y => Below w.heap.size x y) (by kernel_rfl) (fun _ => Below.refl _ _) (fun h k => h.trans k) (by kernel_rfl) (fun d v c a w h => by cases d <;> exact h)
        [(0, false), (1, false), (2, false), (3, false), (4, false), (5, false), (6, false), (7, false), (8, false), (9, false), (10, false), (11, false), (12, false), (13, false), (14, false), (15, true), (16, true), (17, false)] rfl (by kernel_rfl) (by kernel_rfl) ?_
      simp only [sel, List.getElem?_toArray, List.getElem?_cons_succ, List.getElem?_cons_zero]
      generalize wr.drew = wd at *
      iterate 4 (refine sch_take ?_ rfl ?_ ?_; rotate_left; (focus (intro u hu; go_simp <;> rfl)); simp only [Act.put, List.setIfInBounds_toArray, List.set_cons_zero, List.set_cons_succ])
      (refine sch_take ?_ rfl ?_ ?_; rotate_left; (focus (intro u hu; have c := R1.out u hu; clear hu; go_simp <;> rfl)); simp only [Act.put, List.setIfInBounds_toArray, List.set_cons_zero, List.set_cons_succ])
      iterate 3 (refine sch_take ?_ rfl ?_ ?_; rotate_left; (focus (intro u hu; go_simp <;> rfl)); simp only [Act.put, List.setIfInBounds_toArray, List.set_cons_zero, List.set_cons_succ])
      (refine sch_take ?_ rfl ?_ ?_; rotate_left; (focus (intro u hu; have c := R2.out u hu; clear hu; go_simp <;> rfl)); simp only [Act.put, List.setIfInBounds_toArray, List.set_cons_zero, List.set_cons_succ])
      iterate 4 (refine sch_take ?_ rfl ?_ ?_; rotate_left; (focus (intro u hu; go_simp <;> rfl)); simp only [Act.put, List.setIfInBounds_toArray, List.set_cons_zero, List.set_cons_succ])
      (refine sch_take ?_ rfl ?_ ?_; rotate_left; (focus (intro u hu; have c := R3.out u hu; clear hu; go_simp <;> rfl)); simp only [Act.put, List.setIfInBounds_toArray, List.set_cons_zero, List.set_cons_succ])
      (refine sch_take ?_ rfl ?_ ?_; rotate_left; (focus (intro u hu; go_simp <;> rfl)); simp only [Act.put, List.setIfInBounds_toArray, List.set_cons_zero, List.set_cons_succ])
      refine sch_call rfl ?_
      intro K hK
      go_simp
      refine hK _ _ ((Below.refl _ _).alloc HXd.out.size _) ?_
      clear hK K
      refine sch_call rfl ?_
      intro K hK
      refine wp_app _ (.tmp 39) (.tmp 54) _ rfl w.heap.size 5 i0 _ Try.underlying28 hi0 hz0 hz1 hz2 rfl _ xs rfl (World.ownsRow.alloc HOd.out _) (.slice (some ⟨wd.heap.size, 0, none⟩) 1 1) [xx] rfl (Byt.lit1 wd 5 (xx.toNat : Int) xx (0, 0) rfl) (by have := HL.out; simp only [List.length_cons, List.length_nil]; omega) (by have := HXd.out.size; simp only [World.size_alloc]; omega) ?_
      intro v7 w7 hown7 hg7 hat7
      have hb7 : Below w.heap.size (wd.alloc (.cells #[.int .u8 (xx.toNat : Int)] 5)) w7 := below_own (Below.refl _ _) (by have := HXd.out.size; simp only [World.size_alloc]; omega) (World.ownsRow.alloc HOd.out _) hg7
      refine hK _ _ hb7 ?_
      clear hK K
      have HO7 := Lib.hid hown7
      have HX7 := Lib.hid ((HXd.out.alloc HXd.out.size _).trans hb7)
      clear hown7 hg7 hat7 hb7
      (refine sch_take ?_ rfl ?_ ?_; rotate_left; (focus (intro u hu; go_simp <;> rfl)); simp only [Act.put, List.setIfInBounds_toArray, List.set_cons_zero, List.set_cons_succ])
      refine sch_nil ?_
      go_wp2_with fail
      go_roundw
      case rel => exact ⟨k + 1, by omega, by go_num, by rw [HM.out]; exact HO7.out, by rw [HM.out, List.length_append, HL.out]; rfl, HX7.out⟩
      case measure => simp [intOf]; omega
    · have e : k = n := by omega
      subst e
      have hkn' : ¬ (k : Int) < (k : Int) := by omega
      obtain ⟨A4, n4, c4, r4, b4, N4, l4, m4⟩ := HA.out.uptorun 28 elemByte sizeByte k (by have := N.out; omega) .i64
      obtain ⟨A5, n5, c5, r5, b5, N5, l5, m5⟩ := HB.out.uptorun 28 elemByte sizeByte k (by have := N2.out; omega) .i64
      obtain ⟨A6, n6, c6, r6, b6, N6, l6, m6⟩ := HC.out.uptorun 28 elemByte sizeByte k (by have := N3.out; omega) .i64
      have H4 := Lib.hid (show Byt wr.drew _ _ from (b4.below HX.out).drew)
      have H40 := Lib.hid b4
      have H5 := Lib.hid (show Byt wr.drew _ _ from (b5.below HX.out).drew)
      have H6 := Lib.hid (show Byt wr.drew _ _ from (b6.below HX.out).drew)
      have H7 := Lib.hid (show Byt wr.drew _ _ from HO.out.byt.drew)
      have HXd := Lib.hid (show Below w.heap.size w wr.drew from HX.out.drew)
      have hla : (la.take k).length = k := by rw [List.length_take]; omega
      have hlb : (lb.take k).length = k := by rw [List.length_take]; omega
      have hlc : (lc.take k).length = k := by rw [List.length_take]; omega
      have S1 : Hid (∀ w v, Byt w v (la.take k) → Calls Try.prog 13 #[v] w (Word32 w (sumC (la.take k)))) := fun w v hv => crcsum_any w v _ hv (by omega)
      have S2 : Hid (∀ w v, Byt w v (lb.take k) → Calls Try.prog 13 #[v] w (Word32 w (sumC (lb.take k)))) := fun w v hv => crcsum_any w v _ hv (by omega)
      have S3 : Hid (∀ w v, Byt w v (lc.take k) → Calls Try.prog 13 #[v] w (Word32 w (sumC (lc.take k)))) := fun w v hv => crcsum_any w v _ hv (by omega)
      have S4 : Hid (∀ w v, Byt w v (mixC (la.take k) (lb.take k) (lc.take k)) → Calls Try.prog 13 #[v] w (Word32 w (sumC (mixC (la.take k) (lb.take k) (lc.take k))))) := fun w v hv => crcsum_any w v _ hv (by have := HL.out; omega)
      have X1 := u32_xor_nat (sumC (la.take k)) (sumC (lb.take k)) (sumC_lt _) (sumC_lt _)
      have X2 := u32_xor_nat (sumC (la.take k) ^^^ sumC (lb.take k)) (sumC (lc.take k)) (xor32_lt (sumC_lt _) (sumC_lt _)) (sumC_lt _)
      rw [sumC_mix _ _ _ (by rw [hla, hlb]) (by rw [hlb, hlc])] at X2
      have HTE : Hid (∀ j k', j ≤ 4 → k' + j ≤ k → (sumC (yC (la.take k) k' q j) = sumC (la.take k) ↔ chC q j = false)) := fun j k' h1 h2 => yC_tells _ _ _ _ h1 (by omega)
      have S5 : Hid (∀ w v j k', Byt w v (yC (la.take k) k' q j) → Calls Try.prog 13 #[v] w (Word32 w (sumC (yC (la.take k) k' q j)))) := fun w v j k' hv => crcsum_any w v _ hv (by rw [yC_len]; omega)
      have HLA := Lib.hid hla
      generalize sumC (mixC (la.take k) (lb.take k) (lc.take k)) = sx at *
      generalize mixC (la.take k) (lb.take k) (lc.take k) = xs at *
      generalize sumC (la.take k) ^^^ sumC (lb.take k) = sab at *
      generalize sumC (la.take k) = sa at *
      generalize sumC (lb.take k) = sb at *
      generalize sumC (lc.take k) = sc at *
      generalize lb.take k = lb' at *
      generalize lc.take k = lc' at *
      generalize la.take k = ll at *
      obtain ⟨p, hp, hpk⟩ : ∃ p : Nat, z % (k : Int) = (p : Int) ∧ p < k := by
        have h1 := Int.emod_nonneg z (show (k : Int) ≠ 0 by omega)
        have h2 := Int.emod_lt_of_pos z (show (0 : Int) < (k : Int) by omega)
        exact ⟨(z % (k : Int)).toNat, by omega, by omega⟩
      have P0 := Lib.hid (fun w => pick_any z (k : Int) w (by omega) (by omega))
      rw [hp] at P0
      clear b4 b5 b6 hla hlb hlc HO HX HA HB HC hp HL
      go_wp2_with fail
      refine wp_region_R (R := fun x y => Below x.heap.size x y) (by kernel_rfl) (fun _ => Below.refl _ _) (fun h k => h.trans (k.mono h.size)) (by kernel_rfl) (fun d v c a w h => by cases d <;> exact h)
        [(0, false), (1, false), (2, false), (4, false), (5, false), (6, false), (9, false), (10, false), (11, false), (14, false), (3, true), (7, true), (8, false), (12, true), (13, false), (15, true), (16, false)] rfl (by kernel_rfl) (by kernel_rfl) ?_
      simp only [sel, List.getElem?_toArray, List.getElem?_cons_succ, List.getElem?_cons_zero]
      generalize wr.drew = wd at *
      iterate 10 (refine sch_take ?_ rfl ?_ ?_; rotate_left; (focus (intro u hu; go_simp <;> rfl)); simp only [Act.put, List.setIfInBounds_toArray, List.set_cons_zero, List.set_cons_succ])
      refine sch_call rfl ?_
      intro K hK
      go_simp
      refine (S1.out _ _ H4.out).mono ?_
      rintro e y1 ⟨rfl, hb⟩
      go_wp2_with fail
      refine hK _ _ hb ?_
      clear hK K
      have H4 := Lib.hid (H4.out.below hb)
      have H5 := Lib.hid (H5.out.below hb)
      have H6 := Lib.hid (H6.out.below hb)
      have H7 := Lib.hid (H7.out.below hb)
      have HXd := Lib.hid (HXd.out.trans (hb.mono HXd.out.size))
      clear hb
      refine sch_call rfl ?_
      intro K hK
      go_simp
      refine (S2.out _ _ H5.out).mono ?_
      rintro e y2 ⟨rfl, hb⟩
      go_wp2_with fail
      refine hK _ _ hb ?_
      clear hK K
      have H4 := Lib.hid (H4.out.below hb)
      have H5 := Lib.hid (H5.out.below hb)
      have H6 := Lib.hid (H6.out.below hb)
      have H7 := Lib.hid (H7.out.below hb)
      have HXd := Lib.hid (HXd.out.trans (hb.mono HXd.out.size))
      clear hb
      (refine sch_take ?_ rfl ?_ ?_; rotate_left; (focus (intro u hu; go_simp <;> rfl)); simp only [Act.put, List.setIfInBounds_toArray, List.set_cons_zero, List.set_cons_succ])
      refine sch_call rfl ?_
      intro K hK
      go_simp
      refine (S3.out _ _ H6.out).mono ?_
      rintro e y3 ⟨rfl, hb⟩
      go_wp2_with fail
      refine hK _ _ hb ?_
      clear hK K
      have H4 := Lib.hid (H4.out.below hb)
      have H5 := Lib.hid (H5.out.below hb)
      have H6 := Lib.hid (H6.out.below hb)
      have H7 := Lib.hid (H7.out.below hb)
      have HXd := Lib.hid (HXd.out.trans (hb.mono HXd.out.size))
      clear hb
      (refine sch_take ?_ rfl ?_ ?_; rotate_left; (focus (intro u hu; go_simp <;> rfl)); simp only [Act.put, List.setIfInBounds_toArray, List.set_cons_zero, List.set_cons_succ])
      refine sch_call rfl ?_
      intro K hK
      go_simp
      refine (S4.out _ _ H7.out).mono ?_
      rintro e y4 ⟨rfl, hb⟩
      go_wp2_with fail
      refine hK _ _ hb ?_
      clear hK K
      have H4 := Lib.hid (H4.out.below hb)
      have H5 := Lib.hid (H5.out.below hb)
      have H6 := Lib.hid (H6.out.below hb)
      have H7 := Lib.hid (H7.out.below hb)
      have HXd := Lib.hid (HXd.out.trans (hb.mono HXd.out.size))
      clear hb
      (refine sch_take ?_ rfl ?_ ?_; rotate_left; (focus (intro u hu; go_simp <;> rfl)); simp only [Act.put, List.setIfInBounds_toArray, List.set_cons_zero, List.set_cons_succ])
      refine sch_nil ?_
      clear H5 H6 H7 S2 S3 S4 X1 X2
      go_wp2_with fail
      refine (P0.out _).mono ?_
      rintro e y5 ⟨rfl, rfl⟩
      go_wp2_with fail
      refine (kitown_any _ _ ll H4.out (by have := HLA.out; omega)).mono ?_
      rintro e y6 ⟨vy, rfl, ho6, hb6⟩
      have HX6 := Lib.hid (HXd.out.trans (hb6.mono HXd.out.size))
      have ho6' := ho6.lower HXd.out.size
      obtain ⟨gy, cy, rfl, hgy⟩ : ∃ gy cy, vy = .slice (some ⟨gy, 0, none⟩) k cy ∧ w.heap.size ≤ gy := by
        rcases ho6'.2 with ⟨_, h0⟩ | ⟨g, cap, cur, rfl, hb, _⟩
        · have := HLA.out; omega
        · exact ⟨g, cap, by rw [HLA.out], hb⟩
      have HO6 := Lib.hid ho6'
      clear ho6 hb6 ho6' HXd H4
      go_wp2_with fail
      go_loopw [16, 17] (fun ch i wx => YRel w ll p q k (.slice (some ⟨gy, 0, none⟩) k cy) ch i wx) (fun _ i _ => 4 - (intOf i).toNat)
      case atStart => exact ⟨0, by omega, by omega, rfl, rfl, HO6.out, HX6.out⟩
      case round =>
        obtain ⟨j, hj, hpj, rfl, rfl, hown, hbel⟩ := hrel
        have HO := Lib.hid hown
        have HX := Lib.hid hbel
        clear hown hbel
        by_cases hgo : j < 4 ∧ p + j < k
        · have hj4 : (j : Int) < 4 := by omega
          have hpk' : (p : Int) + (j : Int) < (k : Int) := by omega
          have hyl : (yC ll p q j).length = k := by rw [yC_len]; exact HLA.out
          have HO' := HO.out
          unfold Own at HO'
          rw [hyl] at HO'
          have hck := own_cell HO.out (show p + j < (yC ll p q j).length by omega)
          have hfz := World.ownsRow.frozenAt HO' (p + j)
          have HN := Lib.hid (own_set HO.out hyl (p + j) ((yC ll p q j).getD (p + j) 0 ^^^ dB q j))
          have HNX := Lib.hid (HX.out.setCell (p := ⟨gy, p + j, none⟩) hgy (.int .u8 (((yC ll p q j).getD (p + j) 0 ^^^ dB q j).toNat : Int)))
          have HYN : Hid (yC ll p q (j + 1) = (yC ll p q j).set (p + j) ((yC ll p q j).getD (p + j) 0 ^^^ dB q j)) := rfl
          have HCN : Hid (chC q (j + 1) = (chC q j || dB q j != 0)) := rfl
          have XX := byte_xor ((yC ll p q j).getD (p + j) 0) (dB q j)
          have DD : (q : Int) / 2 ^ (8 * j) % 256 = ((dB q j).toNat : Int) := byte_shift q j
          generalize (yC ll p q j).getD (p + j) 0 = yj at *
          generalize dB q j = d at *
          generalize yj ^^^ d = nd at *
          clear HO HO' hyl
          cases hch : chC q j
          · rw [hch] at HCN
            by_cases hd : d = 0
            · subst hd
              have hd0 : ((0 : UInt8).toNat : Int) = 0 := rfl
              rw [hd0] at DD XX
              have HC2 : Hid (chC q (j + 1) = false) := HCN.out
              go_wp2_with fail
              go_roundw
              case rel => exact ⟨j + 1, by omega, by omega, by go_num, by rw [HC2.out], by rw [HYN.out]; exact HN.out, HNX.out⟩
              case measure => simp [intOf]; omega
            · have hdn : (d.toNat : Int) ≠ 0 := fun h => hd (UInt8.toNat_inj.1 (show d.toNat = 0 by omega))
              have hd1 : ((d.toNat : Int) != 0) = true := by rw [bne_iff_ne]; exact hdn
              have HD1 := Lib.hid hd1
              have hc2 : chC q (j + 1) = true := by rw [HCN.out]; simp [hd]
              have HC2 := Lib.hid hc2
              clear hc2 hdn hd1
              go_wp2_with fail
              go_roundw
              case rel => exact ⟨j + 1, by omega, by omega, by go_num, by rw [HC2.out, HD1.out], by rw [HYN.out]; exact HN.out, HNX.out⟩
              case measure => simp [intOf]; omega
          · rw [hch] at HCN
            have HC2 : Hid (chC q (j + 1) = true) := HCN.out
            go_wp2_with fail
            go_roundw
            case rel => exact ⟨j + 1, by omega, by omega, by go_num, by rw [HC2.out], by rw [HYN.out]; exact HN.out, HNX.out⟩
            case measure => simp [intOf]; omega
        · have EQ := same_iff (HTE.out j p hj hpj)
          have HOd := Lib.hid (show Byt wr.drew _ _ from HO.out.byt.drew)
          have H4d := Lib.hid (show Byt wr.drew _ _ from (H40.out.below HX.out).drew)
          have HXd := Lib.hid (show Below w.heap.size w wr.drew from HX.out.drew)
          have C5 := Lib.hid (fun w v hv => S5.out w v j p hv)
          generalize sumC (yC ll p q j) = s1 at *
          generalize yC ll p q j = yl at *
          generalize chC q j = ch at *
          clear HTE HO HX S5
          by_cases hj4' : j < 4
          · have hj4 : (j : Int) < 4 := by omega
            have hpk' : ¬ (p : Int) + (j : Int) < (k : Int) := by omega
            go_wp2_with fail
            refine wp_region_R (R := fun x y => Below x.heap.size x y) (by kernel_rfl) (fun _ => Below.refl _ _) (fun h k => h.trans (k.mono h.size)) (by kernel_rfl) (fun d v c a w h => by cases d <;> exact h)
              [(0, false), (2, false), (3, false), (4, false), (7, false), (8, false), (1, true), (5, true), (6, false), (9, false), (10, false)] rfl (by kernel_rfl) (by kernel_rfl) ?_
            simp only [sel, List.getElem?_toArray, List.getElem?_cons_succ, List.getElem?_cons_zero]
            generalize wr.drew = wd at *
            iterate 6 (refine sch_take ?_ rfl ?_ ?_; rotate_left; (focus (intro u hu; go_simp <;> rfl)); simp only [Act.put, List.setIfInBounds_toArray, List.set_cons_zero, List.set_cons_succ])
            refine sch_call rfl ?_
            intro K hK
            go_simp
            refine (C5.out _ _ HOd.out).mono ?_
            rintro e y7 ⟨rfl, hb⟩
            go_wp2_with fail
            refine hK _ _ hb ?_
            clear hK K
            have H4d := Lib.hid (H4d.out.below hb)
            have HXd := Lib.hid (HXd.out.trans (hb.mono HXd.out.size))
            clear hb
            refine sch_call rfl ?_
            intro K hK
            go_simp
            refine (S1.out _ _ H4d.out).mono ?_
            rintro e y8 ⟨rfl, hb⟩
            go_wp2_with fail
            refine hK _ _ hb ?_
            clear hK K
            have H4d := Lib.hid (H4d.out.below hb)
            have HXd := Lib.hid (HXd.out.trans (hb.mono HXd.out.size))
            clear hb
            iterate 3 (refine sch_take ?_ rfl ?_ ?_; rotate_left; (focus (intro u hu; go_simp <;> rfl)); simp only [Act.put, List.setIfInBounds_toArray, List.set_cons_zero, List.set_cons_succ])
            refine sch_nil ?_
            go_wp2_with fail
            go_ret
            exact ⟨rfl, HXd.out⟩
          · have hj4 : ¬ (j : Int) < 4 := by omega
            go_wp2_with fail
            refine wp_region_R (R := fun x y => Below x.heap.size x y) (by kernel_rfl) (fun _ => Below.refl _ _) (fun h k => h.trans (k.mono h.size)) (by kernel_rfl) (fun d v c a w h => by cases d <;> exact h)
              [(0, false), (2, false), (3, false), (4, false), (7, false), (8, false), (1, true), (5, true), (6, false), (9, false), (10, false)] rfl (by kernel_rfl) (by kernel_rfl) ?_
            simp only [sel, List.getElem?_toArray, List.getElem?_cons_succ, List.getElem?_cons_zero]
            generalize wr.drew = wd at *
            iterate 6 (refine sch_take ?_ rfl ?_ ?_; rotate_left; (focus (intro u hu; go_simp <;> rfl)); simp only [Act.put, List.setIfInBounds_toArray, List.set_cons_zero, List.set_cons_succ])
            refine sch_call rfl ?_
            intro K hK
            go_simp
            refine (C5.out _ _ HOd.out).mono ?_
            rintro e y7 ⟨rfl, hb⟩
            go_wp2_with fail
            refine hK _ _ hb ?_
            clear hK K
            have H4d := Lib.hid (H4d.out.below hb)
            have HXd := Lib.hid (HXd.out.trans (hb.mono HXd.out.size))
            clear hb
            refine sch_call rfl ?_
            intro K hK
            go_simp
            refine (S1.out _ _ H4d.out).mono ?_
            rintro e y8 ⟨rfl, hb⟩
            go_wp2_with fail
            refine hK _ _ hb ?_
            clear hK K
            have H4d := Lib.hid (H4d.out.below hb)
            have HXd := Lib.hid (HXd.out.trans (hb.mono HXd.out.size))
            clear hb
            iterate 3 (refine sch_take ?_ rfl ?_ ?_; rotate_left; (focus (intro u hu; go_simp <;> rfl)); simp only [Act.put, List.setIfInBounds_toArray, List.set_cons_zero, List.set_cons_succ])
            refine sch_nil ?_
            go_wp2_with fail
            go_ret
            exact ⟨rfl, HXd.out⟩

theorem walk (w : World) (va : Value) (la : List UInt8) (vb : Value) (lb : List UInt8) (vc : Value) (lc : List UInt8) (z : Int) (q : Nat) (ha : Byt w va la) (hb : Byt w vb lb) (hc : Byt w vc lc) (hz : -9223372036854775808 ≤ z ∧ z ≤ 9223372036854775807) (hq : q < 4294967296) : Calls Try.prog 6 #[va, vb, vc, .int .i64 z, .int .u32 (q : Int)] w fun e w' => e = .returned (.bool true) ∧ Below w.heap.size w w' := by
  by_cases h1 : 3000 < min (min la.length lb.length) lc.length
  · exact walk_long w va la vb lb vc lc z q ha hb hc h1
  · by_cases h2 : min (min la.length lb.length) lc.length = 0
    · exact walk_none w va la vb lb vc lc z q ha hb hc h2
    · exact walk_short w va la vb lb vc lc z q ha hb hc hq (by omega) (by omega)

set_option maxRecDepth 100000 in
theorem lifted (os : Os) (started : os.Started) (H : Type) (enc : TypeId × Value → H) :
    ReturnsInHanded {} Try.checked os 6 .any (Rows.crcTellsSpec.pre6 enc Try.prog Try.f6 Rows.crcTellsRow.domain false) (Rows.crcTellsSpec.post enc Try.prog Try.f6 false true false false) := by
  refine returnsInHanded_of_change (C := Try.checked) ownKnobs started (by kernel_rfl) Try.func6
    (ChangeSpec.witness6 (enc := enc) (C := Try.checked) false ⟨#[], #[.slice none 0 0, .slice none 0 0, .slice none 0 0, .int .i64 0, .int .u32 0], []⟩ 8 (by kernel_rfl) (by kernel_rfl) (by kernel_rfl) (by kernel_rfl)) ?_
  intro W base args ds gs before hval0 hW hcnd _
  have hval : ∀ (j : Nat) t v, Try.f6.params[j]? = some t → args[j]? = some v → Value.okWide Try.prog W .any base t v := hval0
  have hW' := hW
  obtain ⟨p, q, hA0, hV, rfl, hfz, hnd⟩ := hW
  have hA : DataW.TrodAll enc Try.prog W 0 (fun _ => true) true Try.f6.params.toList args.toList ds p := hA0
  rw [Try.params6] at hA hval
  obtain ⟨v0, vs0, d0, ds0, p0, q0, hargs, rfl, rfl, h0, r0⟩ := trodAll_cons hA
  obtain ⟨v1, vs1, d1, ds1, p1, q1, rfl, rfl, rfl, h1, r1⟩ := trodAll_cons r0
  obtain ⟨v2, vs2, d2, ds2, p2, q2, rfl, rfl, rfl, h2, r2⟩ := trodAll_cons r1
  obtain ⟨v3, vs3, d3, ds3, p3, q3, rfl, rfl, rfl, h3, r3⟩ := trodAll_cons r2
  obtain ⟨v4, vs4, d4, ds4, p4, q4, rfl, rfl, rfl, h4, r4⟩ := trodAll_cons r3
  obtain ⟨rfl, rfl, rfl⟩ := trodAll_nil r4
  obtain rfl : args = #[v0, v1, v2, v3, v4] := by cases args; simp_all
  obtain ⟨rfl, rfl⟩ := trodVars_none hV
  have k0 := h0
  have lt0 : ∀ x ∈ p0, x.block < W.heap.size := by obtain ⟨m, hm⟩ := k0; exact DataW.trod_lt m _ _ _ hm
  obtain ⟨l0, b0⟩ := open_bytes (hval 0 28 v0 rfl rfl) h0
  have k1 := h1
  have lt1 : ∀ x ∈ p1, x.block < W.heap.size := by obtain ⟨m, hm⟩ := k1; exact DataW.trod_lt m _ _ _ hm
  obtain ⟨l1, b1⟩ := open_bytes (hval 1 28 v1 rfl rfl) h1
  have k2 := h2
  have lt2 : ∀ x ∈ p2, x.block < W.heap.size := by obtain ⟨m, hm⟩ := k2; exact DataW.trod_lt m _ _ _ hm
  obtain ⟨l2, b2⟩ := open_bytes (hval 2 28 v2 rfl rfl) h2
  obtain ⟨a3, rfl, rfl, rfl, w3⟩ := open_int Try.underlying3 (hval 3 3 v3 rfl rfl) h3
  have b3 := open_i64 w3
  obtain ⟨a4, rfl, rfl, rfl, w4⟩ := open_int Try.underlying23 (hval 4 23 v4 rfl rfl) h4
  obtain ⟨n4, rfl, b4⟩ := open_u32 w4
  clear hA0 hval0
  refine (walk W v0 l0 v1 l1 v2 l2 a3 n4 b0 b1 b2 b3 b4).mono fun e W' ⟨he, bel⟩ => ?_
  subst he
  exact ⟨_, rfl, _, _, _, [], _, [], hW', trodAll_mk1 (shut_bool Try.underlying4 _), (trodAll_cons_mk (Below.trod laidOuts (by kernel_rfl) (of_decide_eq_true (by kernel_rfl)) k0 bel lt0) (trodAll_cons_mk (Below.trod laidOuts (by kernel_rfl) (of_decide_eq_true (by kernel_rfl)) k1 bel lt1) (trodAll_cons_mk (Below.trod laidOuts (by kernel_rfl) (of_decide_eq_true (by kernel_rfl)) k2 bel lt2) (trodAll_cons_mk (shut_int Try.underlying3 w3) (trodAll_cons_mk (shut_int Try.underlying23 w4) trodAll_mk0))))), rfl, bel.frame _, fun h => by cases h⟩

theorem over : Rows.crcTellsRow.holds Try.pinned (OpenSpec.ofChange Rows.crcTellsSpec) :=
  OpenClaim.holds_of_wide 6 Try.f6 rfl rfl rfl rfl rfl rfl rfl ⟨rfl, rfl, rfl, rfl, rfl⟩ rfl rfl rfl rfl rfl (by kernel_rfl) Try.func6 (by kernel_rfl)
    (of_decide_eq_true (by kernel_rfl)) (by unfold Func.isWrapper; first | (rw [if_pos (by decide +kernel)]; kernel_rfl) | (rw [if_neg (by decide +kernel)]; exact ⟨rfl, rfl⟩))
    (fun os started H enc _ => lifted os started H enc)

theorem proved : Rows.CrcTellsSaid := over
#print axioms proved
end Go.Proofs.Ythabjfnaghdenaa.crcTells
