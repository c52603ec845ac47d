/-
  Package space's Read by its contract. Conditions: the bytes are fewer than 2^46.
-/
import Derived.Test.YtncjobeahpjnpaaSpI
namespace Go.Proofs.Ytncjobeahpjnpaa
open Go.RowKit Go.Maps
set_option maxRecDepth 100000

/-- A reader's End, whatever its state. -/
def endE (l : List UInt8) (e : Nat) : Nat := if e ≠ 0 then e else if l = [] then 0 else 4
theorem end_any (w : World) (g e : Nat) (l : List UInt8) (hr : Rdr w g l e) :
    Calls Try.prog 46 #[.pointer (some ⟨g, 0, none⟩)] w (Told w g .i64 (endE l e) l (endE l e)) := by
  unfold endE
  by_cases he : e ≠ 0
  · rw [if_pos he]
    exact end_err w g e l hr he
  · rw [if_neg he]
    obtain rfl : e = 0 := by omega
    by_cases hl : l = []
    · subst hl
      rw [if_pos rfl]
      exact end_ok w g hr
    · rw [if_neg hl]
      exact end_bad w g l hr (List.length_pos_iff.2 hl)
section
variable {o : Oper} {a : Act} (u : World) (x y : Operand)
theorem exec_shr8 (b k : Nat) (hk : k < 8) (ho : o.op = .binOp .shr 5 x y 3) (hx : a.eval x = .int .u8 (b : Int)) (hy : a.eval y = .int .i64 (k : Int)) : (execOp a.eval o).run Try.prog u = .ok (.value (.int .u8 ((b / 2 ^ k : Nat) : Int))) u := by
  unfold execOp
  rw [ho]
  generalize a.eval = ρ at *
  have h8 : k = 0 ∨ k = 1 ∨ k = 2 ∨ k = 3 ∨ k = 4 ∨ k = 5 ∨ k = 6 ∨ k = 7 := by omega
  rcases h8 with rfl | rfl | rfl | rfl | rfl | rfl | rfl | rfl <;> go_simp
theorem and_one : ∀ z : Fin 256, bits .and .u8 (z.val : Int) 1 = ((z.val % 2 : Nat) : Int) := by decide +kernel
theorem exec_and1 (z : Nat) (hz : z < 256) (ho : o.op = .binOp .and 5 x (.const (.int .u8 1)) 5) (hx : a.eval x = .int .u8 (z : Int)) : (execOp a.eval o).run Try.prog u = .ok (.value (.int .u8 ((z % 2 : Nat) : Int))) u := by
  unfold execOp
  rw [ho]
  have e := and_one ⟨z, hz⟩
  have hc : a.eval (.const (.int .u8 1)) = .int .u8 1 := rfl
  simp only at e
  generalize ((z % 2 : Nat) : Int) = r at *
  generalize a.eval = ρ at *
  go_simp
theorem exec_is1 (z : Nat) (ho : o.op = .binOp .eql 5 x (.const (.int .u8 1)) 5) (hx : a.eval x = .int .u8 (z : Int)) : (execOp a.eval o).run Try.prog u = .ok (.value (.bool (decide (z = 1)))) u := by
  unfold execOp
  rw [ho]
  have hc : a.eval (.const (.int .u8 1)) = .int .u8 1 := rfl
  generalize a.eval = ρ at *
  go_simp
  rw [Bool.eq_iff_iff]
  simp
  omega
end
theorem fixed_in {l : List UInt8} {m : Nat} (h : m ≤ l.length) : fixedB l 0 m = (l.take m, l.drop m, 0) := by
  unfold fixedB takeB
  rw [if_neg (by simp), if_pos (by omega), Nat.zero_add, List.drop_zero]
theorem fixed_out {l : List UInt8} {m : Nat} (h : ¬ m ≤ l.length) : fixedB l 0 m = ([], l, 5) := by
  unfold fixedB takeB
  rw [if_neg (by simp), if_neg (by omega)]
/-- The bits read so far. -/
def fillL (c : List UInt8) (N k : Nat) : List Bool := (List.range k).map (bitAt c) ++ List.replicate (N - k) false
theorem fillL_len {c : List UInt8} {N k : Nat} (h : k ≤ N) : (fillL c N k).length = N := by simp [fillL]; omega
theorem fillL_set {c : List UInt8} {N k : Nat} (h : k < N) : (fillL c N k).set k (bitAt c k) = fillL c N (k + 1) := by
  unfold fillL
  rw [List.set_append_right _ _ (by simp), List.length_map, List.length_range, Nat.sub_self, show N - k = (N - (k + 1)) + 1 by omega, List.replicate_succ, List.set_cons_zero, List.range_succ, List.map_append]
  simp
theorem bitAt_is {c : List UInt8} {k : Nat} (h : k / 8 < c.length) : bitAt c k = decide (c[k / 8].toNat / 2 ^ (k % 8) % 2 = 1) := by
  unfold bitAt
  rw [List.getD_eq_getElem?_getD, List.getElem?_eq_getElem h, Option.getD_some, Nat.testBit_eq_decide_div_mod_eq]
structure RdRel (w : World) (bx g N : Nat) (vb : Value) (c : List UInt8) (k : Nat) (wr : World) : Prop where
  res : SpBox wr w.heap.size 0 (.slice none 0 0)
  box : SpBox wr bx N (.slice (some ⟨g, 0, none⟩) N N)
  own : OwnB wr w.heap.size (.slice (some ⟨g, 0, none⟩) N N) (fillL c N k)
  byt : Byt wr vb c
  bel : Below w.heap.size w wr
def RdLoop (w : World) (bx g N : Nat) (vb : Value) (c : List UInt8) (i : Value) (wr : World) : Prop := ∃ k : Nat, k ≤ N ∧ i = .int .i64 (k : Int) ∧ RdRel w bx g N vb c k wr
set_option maxHeartbeats 2000000 in
/-- No size: refused. -/
theorem spRead_size (w : World) (v : Value) (b : List UInt8) (hv : Byt w v b) (hlen : b.length ≤ 70368744177664) (hs : ¬ (8 ≤ (wordR b 0 4).1 ∧ (wordR b 0 4).1 ≤ 4096)) :
    Calls Try.prog 25 #[v] w (SpOut w (0, [], 4)) := by
  have hN4 : (wordR b 0 4).1 < 4294967296 := by
    show (wordN (takeB b 0 4).1) < _
    have := wordN_lt (takeB b 0 4).1
    have hl : (takeB b 0 4).1.length ≤ 4 := by unfold takeB; split <;> simp; omega
    have : 256 ^ (takeB b 0 4).1.length ≤ 256 ^ 4 := Nat.pow_le_pow_right (by omega) hl
    omega
  have HWD : Hid (∀ w1 g, Rdr w1 g b 0 → Calls Try.prog 44 #[.pointer (some ⟨g, 0, none⟩), .int .i64 4] w1 (Told w1 g .u64 (wordR b 0 4).1 (wordR b 0 4).2.1 (wordR b 0 4).2.2)) := fun w1 g h => rword_is w1 g 0 b 4 h hlen
  obtain ⟨w0, hw0⟩ : ∃ w0, w.alloc (.cells #[.int .i64 0, .slice none 0 0] 24) = w0 := ⟨_, rfl⟩
  have hb0 : Below w.heap.size w w0 := hw0 ▸ below_new w _
  have hR : SpBox w0 w.heap.size 0 (.slice none 0 0) := hw0 ▸ SBox.new w 24 [.int .i64 0, .slice none 0 0]
  have HNW := Lib.hid (new_any w0 v b (hv.below hb0) hlen)
  have HV := Lib.hid hv
  have HW0 := Lib.hid hw0
  have HB0 := Lib.hid hb0
  have HR := Lib.hid hR
  have HLEN := Lib.hid hlen
  clear hv hw0 hb0 hR hlen
  generalize (wordR b 0 4).1 = N at *
  generalize (wordR b 0 4).2.1 = l2 at *
  generalize (wordR b 0 4).2.2 = e2 at *
  have HS := Lib.hid (issize_any (N : Int))
  have hsz : szB (N : Int) = false := by unfold szB; simp; omega
  rw [hsz] at HS
  have hwrap : IntKind.i64.wrap (N : Int) = (N : Int) := by rw [IntKind.wrap_i64]; omega
  clear hs hsz hN4
  go_enter Try.func25, Try.ntmps25
  go_wp2_with fail
  rw [HW0.out]
  refine HNW.out.mono ?_
  rintro e w1 ⟨g, rfl, hg1, hr1, hb1⟩
  have HG : Hid (w0.heap.size ≤ g) := hg1
  have HR1 : Hid (SpBox w1 w.heap.size 0 (.slice none 0 0)) := HR.out.below hb1
  have HB1 : Hid (Below w.heap.size w w1) := HB0.out.trans (hb1.mono HB0.out.size)
  have HRD1 := Lib.hid hr1
  clear hg1 hr1 hb1
  go_wp2_with fail
  refine (HWD.out w1 g HRD1.out).mono ?_
  rintro e w2 ⟨rfl, hr2, hg2⟩
  have HR2 : Hid (SpBox w2 w.heap.size 0 (.slice none 0 0)) := HR1.out.grown hg2 (by have := HG.out; have := HR.out.lt; omega)
  have HB2 : Hid (Below w.heap.size w w2) := HB1.out.grown hg2 HB1.out.size (fun k e => by cases e; have := HG.out; have := HR.out.lt; omega)
  have HRD2 := Lib.hid hr2
  have HGR2 := Lib.hid hg2
  clear hr2 hg2
  go_wp2_with fail
  refine (HS.out _).mono ?_
  rintro e w2x ⟨rfl, rfl⟩
  go_wp2_with (refine wpList_storeS HR2.out spInfo rfl _ _ rfl rfl (ds := [.int .i64 0, .slice none 0 0]) rfl rfl (nil_one 0) ?_; intro w9 hR9 hg9 hz9)
  refine ret_s2 hR9 Try.underlying24 spInfo rfl rfl rfl _ rfl ?_
  exact ⟨_, rfl, OwnV.nil _ _ _, HB2.out.grown hg9 HB2.out.size (fun k e => by cases e; omega)⟩

set_option maxHeartbeats 4000000 in
/-- A size, and too few or too many bytes: refused. -/
theorem spRead_long (w : World) (v : Value) (b : List UInt8) (N : Nat) (hv : Byt w v b) (hlen : b.length ≤ 70368744177664) (hw : wordR b 0 4 = (N, b.drop 4, 0)) (hN : 8 ≤ N ∧ N ≤ 4096) (hl : ¬ b.length = 4 + spM N) (h4 : 4 ≤ b.length) :
    Calls Try.prog 25 #[v] w (SpOut w (0, [], 4)) := by
  have HWD : Hid (∀ w1 g, Rdr w1 g b 0 → Calls Try.prog 44 #[.pointer (some ⟨g, 0, none⟩), .int .i64 4] w1 (Told w1 g .u64 N (b.drop 4) 0)) := fun w1 g h => by
    have := rword_is w1 g 0 b 4 h hlen
    rw [hw] at this
    exact this
  have HFX : Hid (∀ w1 g, Rdr w1 g (b.drop 4) 0 → Calls Try.prog 45 #[.pointer (some ⟨g, 0, none⟩), .int .i64 (spM N : Int)] w1 (Took w1 g (fixedB (b.drop 4) 0 (spM N)).1 (fixedB (b.drop 4) 0 (spM N)).2.1 (fixedB (b.drop 4) 0 (spM N)).2.2)) := fun w1 g h =>
    fixed_is w1 g 0 (b.drop 4) (spM N : Int) h (by rw [List.length_drop]; omega) (by unfold spM; omega)
  have HE : Hid (endE (fixedB (b.drop 4) 0 (spM N)).2.1 (fixedB (b.drop 4) 0 (spM N)).2.2 ≠ 0) := by
    show _ ≠ _
    by_cases h : spM N ≤ (b.drop 4).length
    · rw [fixed_in h]
      unfold endE
      rw [if_neg (by simp), if_neg (fun h0 => by have := congrArg List.length h0; rw [List.length_drop, List.length_drop] at this; rw [List.length_drop] at h; simp at this; omega)]
      exact Nat.succ_ne_zero 3
    · rw [fixed_out h]
      exact Nat.succ_ne_zero 4
  obtain ⟨w0, hw0⟩ : ∃ w0, w.alloc (.cells #[.int .i64 0, .slice none 0 0] 24) = w0 := ⟨_, rfl⟩
  have hb0 : Below w.heap.size w w0 := hw0 ▸ below_new w _
  have hR : SpBox w0 w.heap.size 0 (.slice none 0 0) := hw0 ▸ SBox.new w 24 [.int .i64 0, .slice none 0 0]
  have HNW := Lib.hid (new_any w0 v b (hv.below hb0) hlen)
  have HV := Lib.hid hv
  have HW0 := Lib.hid hw0
  have HB0 := Lib.hid hb0
  have HR := Lib.hid hR
  have HLEN := Lib.hid hlen
  clear hv hw0 hb0 hR hlen
  have HN8 : Hid (8 ≤ N ∧ N ≤ 4096) := hN
  generalize (fixedB (b.drop 4) 0 (spM N)).1 = m3 at *
  generalize (fixedB (b.drop 4) 0 (spM N)).2.1 = l3 at *
  generalize (fixedB (b.drop 4) 0 (spM N)).2.2 = e3 at *
  have HS := Lib.hid (issize_any (N : Int))
  have hsz : szB (N : Int) = true := by unfold szB; simp; omega
  rw [hsz] at HS
  have hwrap : IntKind.i64.wrap (N : Int) = (N : Int) := by rw [IntKind.wrap_i64]; omega
  generalize hE : endE l3 e3 = E at *
  have hEE : ((E : Int) == 0) = false := by have := HE.out; simpa using this
  have HEN : Hid (E ≠ 0) := HE.out
  have HEE := Lib.hid hE
  clear hsz hN hw hl h4 hE
  go_enter Try.func25, Try.ntmps25
  go_wp2_with fail
  rw [HW0.out]
  refine HNW.out.mono ?_
  rintro e w1 ⟨g, rfl, hg1, hr1, hb1⟩
  have HG : Hid (w0.heap.size ≤ g) := hg1
  have HR1 : Hid (SpBox w1 w.heap.size 0 (.slice none 0 0)) := HR.out.below hb1
  have HB1 : Hid (Below w.heap.size w w1) := HB0.out.trans (hb1.mono HB0.out.size)
  have HRD1 := Lib.hid hr1
  clear hg1 hr1 hb1
  go_wp2_with fail
  refine (HWD.out w1 g HRD1.out).mono ?_
  rintro e w2 ⟨rfl, hr2, hg2⟩
  have HR2 : Hid (SpBox w2 w.heap.size 0 (.slice none 0 0)) := HR1.out.grown hg2 (by have := HG.out; have := HR.out.lt; omega)
  have HB2 : Hid (Below w.heap.size w w2) := HB1.out.grown hg2 HB1.out.size (fun k e => by cases e; have := HG.out; have := HR.out.lt; omega)
  have HRD2 := Lib.hid hr2
  have HGR2 := Lib.hid hg2
  clear hr2 hg2
  go_wp2_with fail
  refine (HS.out _).mono ?_
  rintro e w2x ⟨rfl, rfl⟩
  go_wp2_with fail
  refine (bitssize_any (N : Int) w2 (by have := HN8.out; omega) (by have := HN8.out; omega)).mono ?_
  rintro e w2x ⟨rfl, rfl⟩
  go_wp2_with fail
  refine (HFX.out w2 g HRD2.out).mono ?_
  rintro e w3 ⟨vb, rfl, hvb, hr3, hg3⟩
  have HR3 : Hid (SpBox w3 w.heap.size 0 (.slice none 0 0)) := HR2.out.grown hg3 (by have := HG.out; have := HR.out.lt; omega)
  have HB3 : Hid (Below w.heap.size w w3) := HB2.out.grown hg3 HB2.out.size (fun k e => by cases e; have := HG.out; have := HR.out.lt; omega)
  have HRD3 := Lib.hid hr3
  have HGR3 := Lib.hid hg3
  clear hr3 hg3
  have HVB := Lib.hid hvb
  clear hvb
  obtain ⟨Ab, nb, cb, rfl, NB, hnb, hcb⟩ := HVB.out.form
  go_wp2_with fail
  refine (HEE.out ▸ end_any w3 g e3 l3 HRD3.out).mono ?_
  rintro e w4 ⟨rfl, hr4, hg4⟩
  have HR4 : Hid (SpBox w4 w.heap.size 0 (.slice none 0 0)) := HR3.out.grown hg4 (by have := HG.out; have := HR.out.lt; omega)
  have HB4 : Hid (Below w.heap.size w w4) := HB3.out.grown hg4 HB3.out.size (fun k e => by cases e; have := HG.out; have := HR.out.lt; omega)
  have HRD4 := Lib.hid hr4
  have HGR4 := Lib.hid hg4
  clear hr4 hg4
  go_wp2_with (refine wpList_storeS HR4.out spInfo rfl _ _ rfl rfl (ds := [.int .i64 0, .slice none 0 0]) rfl rfl (nil_one 0) ?_; intro w9 hR9 hg9 hz9)
  refine ret_s2 hR9 Try.underlying24 spInfo rfl rfl rfl _ rfl ?_
  exact ⟨_, rfl, OwnV.nil _ _ _, HB4.out.grown hg9 HB4.out.size (fun k e => by cases e; omega)⟩

set_option maxRecDepth 100000 in
set_option maxHeartbeats 4000000 in
/-- As many bytes as there must be: read, and told again. -/
theorem spRead_full (w : World) (v : Value) (b : List UInt8) (N : Nat) (hv : Byt w v b) (hlen : b.length ≤ 70368744177664) (hw : wordR b 0 4 = (N, b.drop 4, 0)) (hN : 8 ≤ N ∧ N ≤ 4096) (hl : b.length = 4 + spM N) (r : Int × List Bool × Nat)
    (hr : (spOk (N : Int) (spT b N) ∧ spB (N : Int) (spT b N) = b ∧ r = ((N : Int), spT b N, 0)) ∨ (¬ (spOk (N : Int) (spT b N) ∧ spB (N : Int) (spT b N) = b) ∧ r = (0, [], 4))) :
    Calls Try.prog 25 #[v] w (SpOut w r) := by
  obtain ⟨i0, hi0, hz0, hz1, hz2⟩ := info_parts binfo
  have HWD : Hid (∀ w1 g, Rdr w1 g b 0 → Calls Try.prog 44 #[.pointer (some ⟨g, 0, none⟩), .int .i64 4] w1 (Told w1 g .u64 N (b.drop 4) 0)) := fun w1 g h => by
    have := rword_is w1 g 0 b 4 h hlen
    rw [hw] at this
    exact this
  have HDL : Hid ((b.drop 4).length = spM N) := by rw [Hid, List.length_drop]; omega
  have HFX : Hid (∀ w1 g, Rdr w1 g (b.drop 4) 0 → Calls Try.prog 45 #[.pointer (some ⟨g, 0, none⟩), .int .i64 (spM N : Int)] w1 (Took w1 g (b.drop 4) [] 0)) := fun w1 g h => by
    have := fixed_is w1 g 0 (b.drop 4) (spM N : Int) h (by rw [List.length_drop]; omega) (by unfold spM; omega)
    rw [Int.toNat_natCast, fixed_in (Nat.le_of_eq HDL.out.symm), List.take_of_length_le (Nat.le_of_eq HDL.out), List.drop_of_length_le (Nat.le_of_eq HDL.out)] at this
    exact this
  obtain ⟨w0, hw0⟩ : ∃ w0, w.alloc (.cells #[.int .i64 0, .slice none 0 0] 24) = w0 := ⟨_, rfl⟩
  have hb0 : Below w.heap.size w w0 := hw0 ▸ below_new w _
  have hR : SpBox w0 w.heap.size 0 (.slice none 0 0) := hw0 ▸ SBox.new w 24 [.int .i64 0, .slice none 0 0]
  have HNW := Lib.hid (new_any w0 v b (hv.below hb0) hlen)
  have HV := Lib.hid hv
  have HW0 := Lib.hid hw0
  have HB0 := Lib.hid hb0
  have HR := Lib.hid hR
  have HLEN := Lib.hid hlen
  clear hv hw0 hb0 hR hlen
  have HN8 : Hid (8 ≤ N ∧ N ≤ 4096) := hN
  have HS := Lib.hid (issize_any (N : Int))
  have hsz : szB (N : Int) = true := by unfold szB; simp; omega
  rw [hsz] at HS
  have hwrap : IntKind.i64.wrap (N : Int) = (N : Int) := by rw [IntKind.wrap_i64]; omega
  have HPL := Lib.hid hr
  clear hsz hN hw hl hr
  go_enter Try.func25, Try.ntmps25
  go_wp2_with fail
  rw [HW0.out]
  refine HNW.out.mono ?_
  rintro e w1 ⟨g, rfl, hg1, hr1, hb1⟩
  have HG : Hid (w0.heap.size ≤ g) := hg1
  have HR1 : Hid (SpBox w1 w.heap.size 0 (.slice none 0 0)) := HR.out.below hb1
  have HB1 : Hid (Below w.heap.size w w1) := HB0.out.trans (hb1.mono HB0.out.size)
  have HRD1 := Lib.hid hr1
  clear hg1 hr1 hb1
  go_wp2_with fail
  refine (HWD.out w1 g HRD1.out).mono ?_
  rintro e w2 ⟨rfl, hr2, hg2⟩
  have HR2 : Hid (SpBox w2 w.heap.size 0 (.slice none 0 0)) := HR1.out.grown hg2 (by have := HG.out; have := HR.out.lt; omega)
  have HB2 : Hid (Below w.heap.size w w2) := HB1.out.grown hg2 HB1.out.size (fun k e => by cases e; have := HG.out; have := HR.out.lt; omega)
  have HRD2 := Lib.hid hr2
  have HGR2 := Lib.hid hg2
  clear hr2 hg2
  go_wp2_with fail
  refine (HS.out _).mono ?_
  rintro e w2x ⟨rfl, rfl⟩
  go_wp2_with fail
  refine (bitssize_any (N : Int) w2 (by have := HN8.out; omega) (by have := HN8.out; omega)).mono ?_
  rintro e w2x ⟨rfl, rfl⟩
  go_wp2_with fail
  refine (HFX.out w2 g HRD2.out).mono ?_
  rintro e w3 ⟨vb, rfl, hvb, hr3, hg3⟩
  have HR3 : Hid (SpBox w3 w.heap.size 0 (.slice none 0 0)) := HR2.out.grown hg3 (by have := HG.out; have := HR.out.lt; omega)
  have HB3 : Hid (Below w.heap.size w w3) := HB2.out.grown hg3 HB2.out.size (fun k e => by cases e; have := HG.out; have := HR.out.lt; omega)
  have HRD3 := Lib.hid hr3
  have HGR3 := Lib.hid hg3
  clear hr3 hg3
  have HVB := Lib.hid hvb
  clear hvb
  obtain ⟨Ab, nb, cb, rfl, NB, hnb, hcb⟩ := HVB.out.form
  go_wp2_with fail
  refine (end_ok w3 g HRD3.out).mono ?_
  rintro e w4 ⟨rfl, hr4, hg4⟩
  have HR4 : Hid (SpBox w4 w.heap.size 0 (.slice none 0 0)) := HR3.out.grown hg4 (by have := HG.out; have := HR.out.lt; omega)
  have HB4 : Hid (Below w.heap.size w w4) := HB3.out.grown hg4 HB3.out.size (fun k e => by cases e; have := HG.out; have := HR.out.lt; omega)
  have HRD4 := Lib.hid hr4
  have HGR4 := Lib.hid hg4
  clear hr4 hg4
  have HVB4 : Hid (Byt w4 (.slice Ab nb cb) (b.drop 4)) := HVB.out.reader HRD3.out HGR4.out
  go_wp2_with (first
    | (at_make; refine wpList_make_full _ rfl _ _ 22 rfl w.heap.size 4 i0 _ 1 Try.underlying22 hi0 hz0 hz1 _ _ _ _ N rfl rfl (by omega) (by omega) (by rw [hz2]; have := HN8.out; omega) (by have := HN8.out; simp only [maxLen]; omega) HB4.out.size ?_; intro w5 hown5 hg5
       have hO5 : Hid (OwnB w5 w.heap.size (.slice (some ⟨w4.heap.size, 0, none⟩) N N) (fillL (b.drop 4) N 0)) := by
         have := OwnV.made rfl hown5
         unfold OwnB
         rw [show booC (fillL (b.drop 4) N 0) = List.replicate N (.bool false) by simp [fillL, booC]]
         exact this
       have hR5 : Hid (SpBox w5 w.heap.size 0 (.slice none 0 0)) := HR4.out.below (below_none hg5)
       have hB5 : Hid (Below w.heap.size w w5) := HB4.out.trans ((below_none hg5).mono HB4.out.size)
       have hV5 : Hid (Byt w5 (.slice Ab nb cb) (b.drop 4)) := HVB4.out.below (below_none hg5)
       have hL5 : Hid (w4.heap.size < w5.heap.size) := by
         obtain ⟨g', c', e', _, h', _⟩ := OwnV.form hO5.out (by rw [booC_len, fillL_len (by omega)]; have := HN8.out; omega)
         injection e' with e1 _ _
         injection e1 with e1
         injection e1 with e1 _ _
         rw [Hid, e1]
         exact h'
       clear hown5 hg5)
    | (refine wpList_storeS (SBox.new w5 24 [.int .i64 0, .slice none 0 0]) spInfo rfl _ _ rfl rfl (ds := [.int .i64 N, .slice (some ⟨w4.heap.size, 0, none⟩) N N]) rfl rfl (one_sp _ _ _ _) ?_; intro w6 hS6 hg6 hz6
       have hO6 : Hid (OwnB w6 w.heap.size (.slice (some ⟨w4.heap.size, 0, none⟩) N N) (fillL (b.drop 4) N 0)) := Boos.grownB (World.ownsRow.alloc hO5.out _) hg6 (by have := hL5.out; omega)
       have hR6 : Hid (SpBox w6 w.heap.size 0 (.slice none 0 0)) := (hR5.out.alloc _).grown hg6 (by have := hR5.out.lt; omega)
       have hB6 : Hid (Below w.heap.size w w6) := (hB5.out.alloc hB5.out.size _).grown hg6 (by have := hB5.out.size; rw [World.size_alloc]; omega) (fun k e => by cases e; exact hB5.out.size)
       have hV6 : Hid (Byt w6 (.slice Ab nb cb) (b.drop 4)) := (hV5.out.alloc _).keep hg6.size (fun b' hlt hex => hg6.block b' hlt (by
         intro e
         cases e
         obtain ⟨off, u, hc⟩ := hex
         have hS := SBox.new w5 24 [.int .i64 0, .slice none 0 0]
         unfold SBox at hS
         rw [cell_of_row _ _ _ _ _ _ hS] at hc
         match off, hc with
         | 0, hc => simp at hc
         | 1, hc => simp at hc
         | n + 2, hc => simp at hc))
       have HS6 := Lib.hid hS6
       have c1 := SpBox.c1 hS6
       clear hS6 hg6 hz6))
  go_loopw [35] (fun i wr => RdLoop w w5.heap.size w4.heap.size N (.slice Ab nb cb) (b.drop 4) i wr) (fun i _ => N - (intOf i).toNat)
  case atStart => exact ⟨0, by omega, rfl, hR6.out, HS6.out, hO6.out, hV6.out, hB6.out⟩
  case round =>
    obtain ⟨k, hk, rfl, hrr⟩ := hrel
    have HRR := Lib.hid hrr
    have c1 := HRR.out.box.c1
    clear hrr
    by_cases hlt : k < N
    · have hkn : (k : Int) < (N : Int) := by omega
      have hN46 : N ≤ 4096 := HN8.out.2
      obtain ⟨q, hq⟩ : ∃ q, q = k / 8 := ⟨_, rfl⟩
      have hql : q < (b.drop 4).length := by rw [HDL.out]; unfold spM; omega
      have hqn : (q : Int) < (nb : Int) := by have : nb = (b.drop 4).length := NB.out; omega
      obtain ⟨bb, off, rfl, hbb, hcell⟩ := HRR.out.byt.at hql
      have hce : wr.drew.cell? ⟨bb, off + q, none⟩ = some (.int .u8 ((b.drop 4)[q].toNat : Int)) := hcell q hql
      have hbit := bitAt_is (c := b.drop 4) (k := k) (by rw [← hq]; exact hql)
      simp only [← hq] at hbit
      have hy256 : (b.drop 4)[q].toNat < 256 := (b.drop 4)[q].toNat_lt
      generalize (b.drop 4)[q].toNat = y at *
      have HC := Lib.hid hce
      have HQ := Lib.hid hq
      have HBIT := Lib.hid hbit
      have HY := Lib.hid hy256
      have HSW : Hid (SpBox wr.drew w5.heap.size N (.slice (some ⟨w4.heap.size, 0, none⟩) N N)) := HRR.out.box
      have HRW : Hid (SpBox wr.drew w.heap.size 0 (.slice none 0 0)) := HRR.out.res
      have HOW : Hid (OwnB wr.drew w.heap.size (.slice (some ⟨w4.heap.size, 0, none⟩) N N) (fillL (b.drop 4) N k)) := HRR.out.own
      have HVW : Hid (Byt wr.drew (.slice (some ⟨bb, off, none⟩) nb cb) (b.drop 4)) := HRR.out.byt
      have HBW : Hid (Below w.heap.size w wr.drew) := HRR.out.bel.drew
      have HKF : Hid (k < (fillL (b.drop 4) N k).length) := by rw [Hid, fillL_len (by omega)]; exact hlt
      clear hcell hce hq hbit hy256 hql
      go_wp2_with fail
      refine wp_onlyN ?_
      refine wp_region_T (R := fun x y => x = y) (by kernel_rfl) (fun _ => rfl) (fun h k => h.trans k) (by kernel_rfl) 14 rfl (by kernel_rfl) (by kernel_rfl) (fun d v c a w h => by cases d <;> exact h)
        [(0, false), (1, false), (2, false), (3, false), (4, false), (5, false), (6, false), (7, false), (8, false), (9, false), (10, false), (11, false), (12, false), (13, false)] rfl (by kernel_rfl) ?_
      simp only [sel, List.getElem?_toArray, List.getElem?_cons_succ, List.getElem?_cons_zero]
      generalize wr.drew = wd at *
      (refine schT_take ?_ rfl ?_ ?_; rotate_left; (focus (intro u hu; go_simp <;> rfl)); simp only [Act.put, List.setIfInBounds_toArray, List.set_cons_zero, List.set_cons_succ])
      (refine schT_take ?_ rfl ?_ ?_; rotate_left; (focus (intro u hu; subst hu; have c1 := HSW.out.c1; go_simp <;> rfl)); simp only [Act.put, List.setIfInBounds_toArray, List.set_cons_zero, List.set_cons_succ])
      iterate 3 (refine schT_take ?_ rfl ?_ ?_; rotate_left; (focus (intro u hu; go_simp <;> rfl)); simp only [Act.put, List.setIfInBounds_toArray, List.set_cons_zero, List.set_cons_succ])
      (refine schT_take (.int .i64 (q : Int)) rfl ?_ ?_; focus (intro u hu; exact exec_quo8 u _ k q HQ.out (by have := HN8.out; omega) rfl rfl))
      simp only [Act.put, List.setIfInBounds_toArray, List.set_cons_zero, List.set_cons_succ]
      (refine schT_take ?_ rfl ?_ ?_; rotate_left; (focus (intro u hu; go_simp <;> rfl)); simp only [Act.put, List.setIfInBounds_toArray, List.set_cons_zero, List.set_cons_succ])
      (refine schT_take ?_ rfl ?_ ?_; rotate_left; (focus (intro u hu; subst hu; have c7 := HC.out; go_simp <;> rfl)); simp only [Act.put, List.setIfInBounds_toArray, List.set_cons_zero, List.set_cons_succ])
      (refine schT_take ?_ rfl ?_ ?_; rotate_left; (focus (intro u hu; go_simp <;> rfl)); simp only [Act.put, List.setIfInBounds_toArray, List.set_cons_zero, List.set_cons_succ])
      (refine schT_take (.int .i64 ((k % 8 : Nat) : Int)) rfl ?_ ?_; focus (intro u hu; exact exec_rem8 u _ k rfl rfl))
      simp only [Act.put, List.setIfInBounds_toArray, List.set_cons_zero, List.set_cons_succ]
      (refine schT_take (.int .u8 ((y / 2 ^ (k % 8) : Nat) : Int)) rfl ?_ ?_; focus (intro u hu; exact exec_shr8 u _ _ y (k % 8) (Nat.mod_lt _ (by omega)) rfl rfl rfl))
      simp only [Act.put, List.setIfInBounds_toArray, List.set_cons_zero, List.set_cons_succ]
      (refine schT_take (.int .u8 ((y / 2 ^ (k % 8) % 2 : Nat) : Int)) rfl ?_ ?_; focus (intro u hu; exact exec_and1 u _ (y / 2 ^ (k % 8)) (Nat.lt_of_le_of_lt (Nat.div_le_self _ _) HY.out) rfl rfl))
      simp only [Act.put, List.setIfInBounds_toArray, List.set_cons_zero, List.set_cons_succ]
      (refine schT_take (.bool (decide (y / 2 ^ (k % 8) % 2 = 1))) rfl ?_ ?_; focus (intro u hu; exact exec_is1 u _ (y / 2 ^ (k % 8) % 2) rfl rfl))
      simp only [Act.put, List.setIfInBounds_toArray, List.set_cons_zero, List.set_cons_succ]
      (refine schT_take ?_ rfl ?_ ?_; rotate_left; (focus (intro u hu; go_simp <;> rfl)); simp only [Act.put, List.setIfInBounds_toArray, List.set_cons_zero, List.set_cons_succ])
      refine schT_nil ?_
      refine schT_lastN rfl rfl ?_
      refine wp_put1 4 _ _ rfl k (.bool (decide (y / 2 ^ (k % 8) % 2 = 1))) rfl rfl rfl boolInfo1 _ (own_cellB HOW.out HKF.out) (own_frozenB HOW.out k) ?_
      intro w9 hw9
      have hg9 : wd.grownBy w9 (some w4.heap.size) := by rw [hw9]; exact grown_set _ _ _ _
      have hrel9 : Hid (RdRel w w5.heap.size w4.heap.size N (.slice (some ⟨bb, off, none⟩) nb cb) (b.drop 4) (k + 1) w9) := ⟨HRW.out.grown hg9 (by have := HR4.out.lt; omega), HSW.out.grown hg9 (by have := hL5.out; omega), by
        rw [hw9, ← fillL_set hlt, HBIT.out]
        exact own_setB HOW.out (fillL_len (by omega)) k _, HVW.out.keep hg9.size (fun b' hlt hex => hg9.block b' hlt (by
          intro e
          cases e
          obtain ⟨off, u, hc⟩ := hex
          by_cases ho : off < (fillL (b.drop 4) N k).length
          · rw [own_cellB HOW.out ho] at hc
            cases hc
          · rcases HOW.out.2 with ⟨e, _⟩ | ⟨g', cap, cur, e, _, hgg, hl1, hl2, hl3, hl4⟩
            · cases e
            · injection e with e1 e2 e3
              injection e1 with e1
              injection e1 with e1 _ _
              subst e1
              rw [cell_of_row _ _ _ _ _ _ hgg] at hc
              rw [fillL_len (by omega)] at ho
              rw [Array.getElem?_eq_none (by omega)] at hc
              cases hc)), HBW.out.grown hg9 HBW.out.size (fun k e => by cases e; exact HB4.out.size)⟩
      clear hw9 hg9
      go_wp2_with fail
      go_roundw
      case rel => exact ⟨k + 1, by omega, by go_num, hrel9.out⟩
      case measure => simp [intOf]; omega
    · have hk2 : k = N := by omega
      subst hk2
      have HOT : Hid (OwnB wr w.heap.size (.slice (some ⟨w4.heap.size, 0, none⟩) k k) (spT b k)) := by
        have := HRR.out.own
        rw [show fillL (b.drop 4) k k = spT b k by simp [fillL, spT]] at this
        exact this
      have HBY := Lib.hid (spBytes_any wr (k : Int) _ (spT b k) HOT.out.boos (by rw [spT_len]; have := HN8.out; omega))
      clear hk
      rcases HPL.out with ⟨h1, h2, h3⟩ | ⟨h1, h3⟩
      · rw [show spBytes (k : Int) (spT b k) = (spB (k : Int) (spT b k), 0) from if_pos h1] at HBY
        have HEQ : Hid (decide (spB (k : Int) (spT b k) = b) = true) := decide_eq_true h2
        have HR3 := Lib.hid h3
        clear h1 h2 h3
        generalize spB (k : Int) (spT b k) = xs at *
        rw [Hid] at HR3
        subst HR3
        go_wp2_with (refine wpList_loadS HRR.out.box Try.underlying24 spInfo rfl _ rfl rfl ?_)
        refine HBY.out.mono ?_
        rintro e w7 ⟨xb, rfl, hxb, hb7⟩
        have HR7 : Hid (SpBox w7 w.heap.size 0 (.slice none 0 0)) := HRR.out.res.below hb7
        have HS7 : Hid (SpBox w7 w5.heap.size k (.slice (some ⟨w4.heap.size, 0, none⟩) k k)) := HRR.out.box.below hb7
        have HO7 : Hid (OwnB w7 w.heap.size (.slice (some ⟨w4.heap.size, 0, none⟩) k k) (spT b k)) := OwnV.keep HOT.out hb7
        have HB7 : Hid (Below w.heap.size w w7) := HRR.out.bel.trans (hb7.mono HRR.out.bel.size)
        have HXB := Lib.hid hxb.byt
        clear hxb hb7
        go_wp2_with fail
        refine (equal_any w7 xb v _ b HXB.out (HV.out.below HB7.out)).mono ?_
        rintro e w8 ⟨rfl, rfl⟩
        rw [HEQ.out]
        go_wp2_with (first
          | (refine wpList_loadS HS7.out Try.underlying24 spInfo rfl _ rfl rfl ?_)
          | (refine wpList_storeS HR7.out spInfo rfl _ _ rfl rfl (ds := [.int .i64 k, .slice (some ⟨w4.heap.size, 0, none⟩) k k]) rfl rfl (one_sp _ _ _ _) ?_; intro w9 hR9 hg9 hz9))
        refine ret_s2 hR9 Try.underlying24 spInfo rfl rfl rfl _ rfl ?_
        exact ⟨_, rfl, Boos.grownB HO7.out hg9 (by have := HR4.out.lt; omega), HB7.out.grown hg9 HB7.out.size (fun k e => by cases e; omega)⟩
      · have HR3 := Lib.hid h3
        rw [Hid] at HR3
        subst HR3
        by_cases hok : spOk (k : Int) (spT b k)
        · rw [show spBytes (k : Int) (spT b k) = (spB (k : Int) (spT b k), 0) from if_pos hok] at HBY
          have HEQ : Hid (decide (spB (k : Int) (spT b k) = b) = false) := decide_eq_false (fun h => h1 ⟨hok, h⟩)
          clear h1 h3 hok HPL
          generalize spB (k : Int) (spT b k) = xs at *
          go_wp2_with (refine wpList_loadS HRR.out.box Try.underlying24 spInfo rfl _ rfl rfl ?_)
          refine HBY.out.mono ?_
          rintro e w7 ⟨xb, rfl, hxb, hb7⟩
          have HR7 : Hid (SpBox w7 w.heap.size 0 (.slice none 0 0)) := HRR.out.res.below hb7
          have HS7 : Hid (SpBox w7 w5.heap.size k (.slice (some ⟨w4.heap.size, 0, none⟩) k k)) := HRR.out.box.below hb7
          have HO7 : Hid (OwnB w7 w.heap.size (.slice (some ⟨w4.heap.size, 0, none⟩) k k) (spT b k)) := OwnV.keep HOT.out hb7
          have HB7 : Hid (Below w.heap.size w w7) := HRR.out.bel.trans (hb7.mono HRR.out.bel.size)
          have HXB := Lib.hid hxb.byt
          clear hxb hb7
          go_wp2_with fail
          refine (equal_any w7 xb v _ b HXB.out (HV.out.below HB7.out)).mono ?_
          rintro e w8 ⟨rfl, rfl⟩
          rw [HEQ.out]
          go_wp2_with (refine wpList_storeS HR7.out spInfo rfl _ _ rfl rfl (ds := [.int .i64 0, .slice none 0 0]) rfl rfl (nil_one 0) ?_; intro w9 hR9 hg9 hz9)
          refine ret_s2 hR9 Try.underlying24 spInfo rfl rfl rfl _ rfl ?_
          exact ⟨_, rfl, OwnV.nil _ _ _, HB7.out.grown hg9 HB7.out.size (fun k e => by cases e; omega)⟩
        · rw [show spBytes (k : Int) (spT b k) = ([], 2) from if_neg hok] at HBY
          clear h1 h3 hok HPL
          go_wp2_with (refine wpList_loadS HRR.out.box Try.underlying24 spInfo rfl _ rfl rfl ?_)
          refine HBY.out.mono ?_
          rintro e w7 ⟨xb, rfl, hxb, hb7⟩
          have HR7 : Hid (SpBox w7 w.heap.size 0 (.slice none 0 0)) := HRR.out.res.below hb7
          have HS7 : Hid (SpBox w7 w5.heap.size k (.slice (some ⟨w4.heap.size, 0, none⟩) k k)) := HRR.out.box.below hb7
          have HO7 : Hid (OwnB w7 w.heap.size (.slice (some ⟨w4.heap.size, 0, none⟩) k k) (spT b k)) := OwnV.keep HOT.out hb7
          have HB7 : Hid (Below w.heap.size w w7) := HRR.out.bel.trans (hb7.mono HRR.out.bel.size)
          have HXB := Lib.hid hxb.byt
          clear hxb hb7
          go_wp2_with (refine wpList_storeS HR7.out spInfo rfl _ _ rfl rfl (ds := [.int .i64 0, .slice none 0 0]) rfl rfl (nil_one 0) ?_; intro w9 hR9 hg9 hz9)
          refine ret_s2 hR9 Try.underlying24 spInfo rfl rfl rfl _ rfl ?_
          exact ⟨_, rfl, OwnV.nil _ _ _, HB7.out.grown hg9 HB7.out.size (fun k e => by cases e; omega)⟩

theorem wordR_in {b : List UInt8} (h : 4 ≤ b.length) : wordR b 0 4 = (wordN (b.take 4), b.drop 4, 0) := by
  have e : takeB b 0 4 = (b.take 4, b.drop 4, 0) := by
    unfold takeB
    rw [if_pos (by omega), List.drop_zero]
  unfold wordR
  rw [if_neg (by simp), if_pos (by omega)]
  rw [show (4 : Int).toNat = 4 from rfl, e]
theorem wordR_out {b : List UInt8} (h : ¬ 4 ≤ b.length) : (wordR b 0 4).1 = 0 := by
  have e : takeB b 0 4 = ([], b, 5) := by
    unfold takeB
    rw [if_neg (by omega)]
  unfold wordR
  rw [if_neg (by simp), if_pos (by omega)]
  rw [show (4 : Int).toNat = 4 from rfl, e]
  rfl
theorem spRead_any (w : World) (v : Value) (b : List UInt8) (hv : Byt w v b) (hlen : b.length ≤ 70368744177664) : Calls Try.prog 25 #[v] w (SpOut w (spRead b)) := by
  by_cases h4 : 4 ≤ b.length
  · have hw := wordR_in h4
    by_cases hN : 8 ≤ wordN (b.take 4) ∧ wordN (b.take 4) ≤ 4096
    · by_cases hl : b.length = 4 + spM (wordN (b.take 4))
      · refine spRead_full w v b _ hv hlen hw hN hl (spRead b) ?_
        by_cases hi : spIs b
        · exact .inl ⟨hi.2.2.1, hi.2.2.2, by unfold spRead; rw [if_pos hi]⟩
        · exact .inr ⟨fun h => hi ⟨h4, hl, h.1, h.2⟩, spRead_not hi⟩
      · rw [spRead_not (fun hi => hl hi.2.1)]
        exact spRead_long w v b _ hv hlen hw hN hl h4
    · rw [spRead_not (fun hi => hN (by have := hi.2.2.1.1; have := hi.2.2.1.2.1; omega))]
      refine spRead_size w v b hv hlen ?_
      rw [hw]
      exact hN
  · rw [spRead_not (fun hi => h4 hi.1)]
    refine spRead_size w v b hv hlen ?_
    rw [wordR_out h4]
    omega
end Go.Proofs.Ytncjobeahpjnpaa
