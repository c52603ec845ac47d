/-
  tallymanref08.Read. Conditions: at most 10000 bytes.
-/
import Derived.Test.YtncjobeahpjnpaaSpS
import Derived.Test.YtncjobeahpjnpaaRd1
namespace Go.Proofs.Ytncjobeahpjnpaa
open Go.ChangeShapes Go.WideShapes Go.ChangeAt Go.RowKit Go.Maps
set_option maxRecDepth 100000
set_option linter.unusedVariables false
set_option linter.unusedSimpArgs false

theorem spT_snoc (b : List UInt8) (k : Nat) : spT b (k + 1) = spT b k ++ [bitAt (b.drop 4) k] := by simp [spT, List.range_succ]
def rdN (b : List UInt8) : Nat := wordN (b.take 4)
def rdK (b : List UInt8) : Nat := min (rdN b) (min (8 * (b.length - 4)) 4096)
/-- What is read, as the document's text says it. -/
theorem spRead_doc {b : List UInt8} (h4 : 4 ≤ b.length) : spRead b = if spBytes (rdN b : Int) (spT b (rdK b)) = (b, 0) then ((rdN b : Int), spT b (rdK b), 0) else (0, [], 4) := by
  by_cases hi : spIs b
  · have hi' := hi
    obtain ⟨_, h2, h3, h5⟩ := hi'
    have hp : (8 : Int) ≤ (rdN b : Int) ∧ (rdN b : Int) ≤ 4096 := ⟨h3.1, h3.2.1⟩
    have hk : rdK b = rdN b := by
      have h2' : b.length = 4 + spM (rdN b) := h2
      unfold rdK
      unfold spM at h2'
      omega
    have e : spBytes (rdN b : Int) (spT b (rdN b)) = (b, 0) := by
      unfold spBytes
      rw [if_pos (show spOk (rdN b : Int) (spT b (rdN b)) from h3), show spB (rdN b : Int) (spT b (rdN b)) = b from h5]
    rw [hk, if_pos e]
    exact if_pos hi
  · rw [spRead_not hi, if_neg]
    intro e
    unfold spBytes at e
    by_cases hok : spOk (rdN b : Int) (spT b (rdK b))
    · rw [if_pos hok] at e
      have hb : spB (rdN b : Int) (spT b (rdK b)) = b := congrArg Prod.fst e
      have hl := (spOk_len hok).1
      rw [spT_len] at hl
      have hk : rdK b = rdN b := by omega
      have hlen := spB_len (rdN b : Int) (spT b (rdK b))
      rw [hb, spT_len, hk] at hlen
      rw [hk] at hok hb
      exact hi ⟨h4, hlen, hok, hb⟩
    · rw [if_neg hok] at e
      have := congrArg Prod.snd e
      simp at this
section
variable {o : Oper} {a : Act} (u : World) (x y : Operand)
theorem exec_convu (k : Nat) (hk : k < 8) (ho : o.op = .convert 3 60 x) (hx : a.eval x = .int .i64 (k : Int)) : (execOp a.eval o).run Try.prog u = .ok (.value (.int .u64 (k : Int))) u := by
  unfold execOp
  rw [ho]
  generalize a.eval = ρ at *
  go_simp
  rw [IntKind.wrap_u64]
  omega
theorem exec_shru (b k : Nat) (hk : k < 8) (ho : o.op = .binOp .shr 5 x y 60) (hx : a.eval x = .int .u8 (b : Int)) (hy : a.eval y = .int .u64 (k : Int)) : (execOp a.eval o).run Try.prog u = .ok (.value (.int .u8 ((b / 2 ^ k : Nat) : Int))) u := by
  unfold execOp
  rw [ho]
  generalize a.eval = ρ at *
  have h8 : k = 0 ∨ k = 1 ∨ k = 2 ∨ k = 3 ∨ k = 4 ∨ k = 5 ∨ k = 6 ∨ k = 7 := by omega
  rcases h8 with rfl | rfl | rfl | rfl | rfl | rfl | rfl | rfl <;> go_simp
theorem exec_rem2 (z : Nat) (ho : o.op = .binOp .rem 5 x (.const (.int .u8 2)) 5) (hx : a.eval x = .int .u8 (z : Int)) : (execOp a.eval o).run Try.prog u = .ok (.value (.int .u8 ((z % 2 : Nat) : Int))) u := by
  unfold execOp
  rw [ho]
  have hc : a.eval (.const (.int .u8 2)) = .int .u8 2 := rfl
  generalize a.eval = ρ at *
  go_simp
  exact Int.tmod_eq_emod_of_nonneg (by omega)
theorem exec_add4 (q j : Nat) (h : j = 4 + q) (hq : q < 1000000) (ho : o.op = .binOp .add 3 (.const (.int .i64 4)) x 3) (hx : a.eval x = .int .i64 (q : Int)) : (execOp a.eval o).run Try.prog u = .ok (.value (.int .i64 (j : Int))) u := by
  unfold execOp
  rw [ho]
  subst h
  have hc : a.eval (.const (.int .i64 4)) = .int .i64 4 := rfl
  generalize a.eval = ρ at *
  go_simp
  rw [IntKind.wrap_i64]
  omega
end
def RrRel (w : World) (b : List UInt8) (G : Nat) (i : Value) (u : World) : Prop :=
  ∃ (k : Nat) (dv : Value), k ≤ rdK b ∧ i = .int .i64 (k : Int) ∧ SpBox u w.heap.size 0 (.slice none 0 0) ∧ SpBox u G (rdN b : Int) dv ∧ OwnB u (G + 1) dv (spT b k) ∧ Below w.heap.size w u
set_option maxRecDepth 100000 in
set_option maxHeartbeats 8000000 in
theorem r8Read_ok (w : World) (v : Value) (b : List UInt8) (hv : Byt w v b) (hlen : b.length ≤ 10000) (h4 : 4 ≤ b.length) :
    Calls Try.prog 27 #[v] w (SpOut w (spRead b)) := by
  obtain ⟨i0, hi0, hz0, hz1, hz2⟩ := info_parts binfo
  have HI0 : Hid (∃ i, Try.prog.info? 4 = some i ∧ i.zero = some (.bool false) ∧ i.size = 1 ∧ i.bytes = 1) := ⟨i0, hi0, hz0, hz1, hz2⟩
  clear hi0 hz0 hz1 hz2
  clear i0
  have hcs : (spBytes (rdN b : Int) (spT b (rdK b)) = (b, 0) ∧ spRead b = ((rdN b : Int), spT b (rdK b), 0)) ∨ (∃ xs, ¬ xs = b ∧ spBytes (rdN b : Int) (spT b (rdK b)) = (xs, 0) ∧ spRead b = (0, [], 4)) ∨ (spBytes (rdN b : Int) (spT b (rdK b)) = ([], 2) ∧ spRead b = (0, [], 4)) := by
    rw [spRead_doc h4]
    by_cases h : spBytes (rdN b : Int) (spT b (rdK b)) = (b, 0)
    · exact .inl ⟨h, if_pos h⟩
    · refine .inr ?_
      rw [if_neg h]
      unfold spBytes at h ⊢
      by_cases hok : spOk (rdN b : Int) (spT b (rdK b))
      · rw [if_pos hok] at h ⊢
        exact .inl ⟨_, fun e => h (by rw [e]), rfl, rfl⟩
      · rw [if_neg hok]
        exact .inr ⟨rfl, rfl⟩
  have HCS := Lib.hid hcs
  have HV := Lib.hid hv
  obtain ⟨A, n, c, rfl, N, hnc, hcm⟩ := hv.form
  have hn4 : 4 ≤ (n : Int) := by have := N.out; omega
  have hnlt : ¬ (n : Int) < 4 := by omega
  obtain ⟨A1, n1, c1, r1, b1, N1, _, _⟩ := hv.uptorun 36 elemByte sizeByte 4 (by have := N.out; omega) .i64
  have r1' : ∀ W, (Instr.slice 36 (.slice A n c) none (some (.int .i64 4)) none).run Try.prog W = .ok (.slice A1 n1 c1) W := r1
  have HB1 := Lib.hid b1
  have HT4 : Hid ((b.take 4).length = 4) := by rw [Hid, List.length_take]; omega
  have hW : rdN b < 4294967296 := by have := wordN_lt (b.take 4); rw [HT4.out] at this; exact this
  have hwrap : IntKind.i64.wrap (rdN b : Int) = (rdN b : Int) := by rw [IntKind.wrap_i64]; omega
  obtain ⟨w0, hw0⟩ : ∃ w0, w.alloc (.cells #[.int .i64 0, .slice none 0 0] 24) = w0 := ⟨_, rfl⟩
  have HR0 : Hid (SpBox w0 w.heap.size 0 (.slice none 0 0)) := hw0 ▸ SBox.new w 24 [.int .i64 0, .slice none 0 0]
  have HB0 : Hid (Below w.heap.size w w0) := hw0 ▸ below_new w _
  have HW0 := Lib.hid hw0
  have HL : Hid (4 ≤ b.length ∧ b.length ≤ 10000) := ⟨h4, hlen⟩
  have HWN : Hid (rdN b = wordN (b.take 4)) := rfl
  have HKM : Hid (rdK b ≤ 4096) := by show rdK b ≤ 4096; unfold rdK; omega
  clear hcs hv r1 b1 hw0 hlen h4 N1
  go_enter Try.func27, Try.ntmps27
  go_wp2_with fail
  rw [HW0.out]
  refine (r1new_any w0 _ (b.take 4) (HB1.out.below HB0.out) (by rw [HT4.out]; omega)).mono ?_
  rintro e w1 ⟨g, rfl, hg0, hrd, hb1⟩
  have HRD := Lib.hid hrd
  have HR1 : Hid (SpBox w1 w.heap.size 0 (.slice none 0 0)) := HR0.out.below hb1
  have HBB1 : Hid (Below w.heap.size w w1) := HB0.out.trans (hb1.mono HB0.out.size)
  have HGG : Hid (w.heap.size < g) := Nat.lt_of_lt_of_le HR0.out.lt hg0
  clear hrd hb1 hg0
  go_wp2_with fail
  refine (rrword_is w1 g (b.take 4) HRD.out HT4.out).mono ?_
  rintro e w2 ⟨rfl, hg2⟩
  rw [← HWN.out]
  have HR2 : Hid (SpBox w2 w.heap.size 0 (.slice none 0 0)) := HR1.out.grown hg2 (by have := HGG.out; omega)
  have HB2 : Hid (Below w.heap.size w w2) := HBB1.out.grown hg2 HBB1.out.size (fun k e => by cases e; have := HGG.out; omega)
  clear hg2
  go_wp2_with (refine wpList_storeS (SBox.new w2 24 [.int .i64 0, .slice none 0 0]) spInfo rfl _ _ rfl rfl (ds := [.int .i64 (rdN b : Int), .slice none 0 0]) rfl rfl (nil_one _) ?_; intro w3 hS3 hg3 hz3)
  have HT3 : Hid (SpBox w3 w.heap.size 0 (.slice none 0 0)) := (HR2.out.alloc _).grown hg3 (by have := HR2.out.lt; omega)
  have HB3 : Hid (Below w.heap.size w w3) := (HB2.out.alloc HB2.out.size _).grown hg3 (by have := HB2.out.size; rw [World.size_alloc]; omega) (fun j e => by cases e; exact HB2.out.size)
  have hG2 : w.heap.size + 1 ≤ w2.heap.size := HR2.out.lt
  clear hg3 hz3 hwrap hW r1'
  generalize w2.heap.size = G at *
  have HG : Hid (w.heap.size + 1 ≤ G) := hG2
  have HS3 := Lib.hid hS3
  clear hG2 hS3
  go_loopw [5] (fun i u => RrRel w b G i u) (fun i _ => rdK b - (intOf i).toNat)
  case atStart => exact ⟨0, _, Nat.zero_le _, rfl, HT3.out, HS3.out, OwnV.nil _ _ _, HB3.out⟩
  case round =>
    obtain ⟨k, dv, hk, rfl, hT, hS, hO, hB⟩ := hrel
    obtain ⟨Ad, nd, cd, rfl, ND, _, _⟩ := (OwnB.boos hO).form
    have HTR := Lib.hid hT
    have HSR := Lib.hid hS
    have HOR := Lib.hid hO
    have HBR := Lib.hid hB
    have a0 := hS.c0
    have hnb := N.out
    have hL := HL.out
    have hw8 : wrap64 (8 * ((n : Int) - 4)) = 8 * ((n : Int) - 4) := by
      unfold wrap64
      omega
    clear hT hS hO hB
    by_cases hk1 : k < rdN b
    · by_cases hk2 : k < 8 * (b.length - 4)
      · by_cases hk3 : k < 4096
        · have hlt : k < rdK b := by unfold rdK; omega
          have i1 : (k : Int) < (rdN b : Int) := by omega
          have i2 : (k : Int) < 8 * ((n : Int) - 4) := by omega
          have i3 : (k : Int) < 4096 := by omega
          have HLT := Lib.hid hlt
          obtain ⟨q, hq⟩ : ∃ q, q = k / 8 := ⟨_, rfl⟩
          obtain ⟨j4, hj4⟩ : ∃ j4, j4 = 4 + q := ⟨_, rfl⟩
          have hjl : j4 < b.length := by omega
          have hjn : (j4 : Int) < (n : Int) := by omega
          obtain ⟨bb, off, rfl, hbb, hcell⟩ := HV.out.at hjl
          have hbit := bitAt_is (c := b.drop 4) (k := k) (by rw [List.length_drop]; omega)
          rw [List.getElem_drop] at hbit
          simp only [← hq, ← hj4] at hbit
          obtain ⟨wd, hwd⟩ : ∃ u, wr.drew = u := ⟨_, rfl⟩
          have HWD := Lib.hid hwd
          have hbd : Below wr.heap.size wr wd := hwd ▸ (Below.refl _ wr).drew
          have HTD : Hid (SpBox wd w.heap.size 0 (.slice none 0 0)) := HTR.out.below hbd
          have HSD : Hid (SpBox wd G (rdN b : Int) (.slice Ad nd cd)) := HSR.out.below hbd
          have HOD : Hid (OwnB wd (G + 1) (.slice Ad nd cd) (spT b k)) := OwnV.keep HOR.out hbd
          have HBD : Hid (Below w.heap.size w wd) := HBR.out.trans (hbd.mono HBR.out.size)
          have HGW : Hid (G + 1 ≤ wd.heap.size) := HSD.out.lt
          have CG := Lib.hid HSD.out.c1
          have CL := Lib.hid ((HBD.out.cell (p := ⟨bb, off + j4, none⟩) hbb).trans (hcell j4 hjl))
          have HGL : Hid (bb < G + 1) := by have := HG.out; show _ < _; omega
          have HKM : Hid (k < 4096) := hk3
          have HQ := Lib.hid hq
          have HJ4 := Lib.hid hj4
          generalize b[j4].toNat = y at *
          have HBIT := Lib.hid hbit
          clear hbb hcell hwd hbd hbit hq hj4 hjl hk hlt hk1 hk2 hk3 hnb hL
          go_wp2_with fail
          refine wp_region_T (R := fun x y => Below (G + 1) x y) (by kernel_rfl) (fun _ => Below.refl _ _) (fun h k => h.trans k) (by kernel_rfl) 17 rfl (by kernel_rfl) (by kernel_rfl) (fun d v c a w h => by cases d <;> exact h)
            [(0, false), (1, false), (2, false), (3, false), (4, false), (5, false), (6, false), (7, false), (8, false), (9, false), (10, false), (11, false), (12, false), (13, false), (14, true), (15, true), (16, false)] rfl (by kernel_rfl) ?_
          simp only [sel, List.getElem?_toArray, List.getElem?_cons_succ, List.getElem?_cons_zero]
          rw [HWD.out]
          (refine schT_take ?_ rfl ?_ ?_; rotate_left; (focus (intro u hu; go_simp <;> rfl)); simp only [Act.put, List.setIfInBounds_toArray, List.set_cons_zero, List.set_cons_succ])
          (refine schT_take ?_ rfl ?_ ?_; rotate_left; (focus (intro u hu; have c1 := (hu.cell (p := ⟨G, 1, none⟩) (Nat.lt_succ_self G)).trans CG.out; clear hu; go_simp <;> rfl)); simp only [Act.put, List.setIfInBounds_toArray, List.set_cons_zero, List.set_cons_succ])
          iterate 2 (refine schT_take ?_ rfl ?_ ?_; rotate_left; (focus (intro u hu; go_simp <;> rfl)); simp only [Act.put, List.setIfInBounds_toArray, List.set_cons_zero, List.set_cons_succ])
          (refine schT_take (.int .i64 (q : Int)) rfl ?_ ?_; focus (intro u hu; exact exec_quo8 u _ k q HQ.out (by have := HKM.out; omega) rfl rfl))
          simp only [Act.put, List.setIfInBounds_toArray, List.set_cons_zero, List.set_cons_succ]
          (refine schT_take (.int .i64 (j4 : Int)) rfl ?_ ?_; focus (intro u hu; exact exec_add4 u _ q j4 HJ4.out (by have := HKM.out; have := HQ.out; omega) rfl rfl))
          simp only [Act.put, List.setIfInBounds_toArray, List.set_cons_zero, List.set_cons_succ]
          (refine schT_take ?_ rfl ?_ ?_; rotate_left; (focus (intro u hu; go_simp <;> rfl)); simp only [Act.put, List.setIfInBounds_toArray, List.set_cons_zero, List.set_cons_succ])
          (refine schT_take ?_ rfl ?_ ?_; rotate_left; (focus (intro u hu; have c1 := (hu.cell (p := ⟨bb, off + j4, none⟩) HGL.out).trans CL.out; clear hu; go_simp <;> rfl)); simp only [Act.put, List.setIfInBounds_toArray, List.set_cons_zero, List.set_cons_succ])
          (refine schT_take ?_ rfl ?_ ?_; rotate_left; (focus (intro u hu; go_simp <;> rfl)); simp only [Act.put, List.setIfInBounds_toArray, List.set_cons_zero, List.set_cons_succ])
          (refine schT_take (.int .i64 ((k % 8 : Nat) : Int)) rfl ?_ ?_; focus (intro u hu; exact exec_rem8 u _ k rfl rfl))
          simp only [Act.put, List.setIfInBounds_toArray, List.set_cons_zero, List.set_cons_succ]
          (refine schT_take (.int .u64 ((k % 8 : Nat) : Int)) rfl ?_ ?_; focus (intro u hu; exact exec_convu u _ (k % 8) (Nat.mod_lt _ (by omega)) rfl rfl))
          simp only [Act.put, List.setIfInBounds_toArray, List.set_cons_zero, List.set_cons_succ]
          (refine schT_take (.int .u8 ((y / 2 ^ (k % 8) : Nat) : Int)) rfl ?_ ?_; focus (intro u hu; exact exec_shru u _ _ y (k % 8) (Nat.mod_lt _ (by omega)) rfl rfl rfl))
          simp only [Act.put, List.setIfInBounds_toArray, List.set_cons_zero, List.set_cons_succ]
          (refine schT_take (.int .u8 ((y / 2 ^ (k % 8) % 2 : Nat) : Int)) rfl ?_ ?_; focus (intro u hu; exact exec_rem2 u _ (y / 2 ^ (k % 8)) rfl rfl))
          simp only [Act.put, List.setIfInBounds_toArray, List.set_cons_zero, List.set_cons_succ]
          (refine schT_take (.bool (decide (y / 2 ^ (k % 8) % 2 = 1))) rfl ?_ ?_; focus (intro u hu; exact exec_is1 u _ (y / 2 ^ (k % 8) % 2) rfl rfl))
          simp only [Act.put, List.setIfInBounds_toArray, List.set_cons_zero, List.set_cons_succ]
          refine schT_call rfl ?_
          intro K hK
          go_simp
          refine hK _ _ ((below_new wd _).mono HGW.out) ?_
          clear hK K
          obtain ⟨bt, hbt⟩ : ∃ bt, bt = decide (y / 2 ^ (k % 8) % 2 = 1) := ⟨_, rfl⟩
          have HBT := Lib.hid hbt
          rw [← hbt]
          clear hbt
          obtain ⟨w5, hw5⟩ : ∃ u, wd.alloc (.cells #[.bool bt] 4) = u := ⟨_, rfl⟩
          have hb5 : Below wd.heap.size wd w5 := hw5 ▸ below_new _ _
          have HRW : Hid (Rowz w5 (.slice (some ⟨wd.heap.size, 0, none⟩) 1 1) (booC [bt])) := hw5 ▸ Rowz.lit wd [.bool bt] 4 (by simp [maxLen])
          have HT5 : Hid (SpBox w5 w.heap.size 0 (.slice none 0 0)) := HTD.out.below hb5
          have HS5 : Hid (SpBox w5 G (rdN b : Int) (.slice Ad nd cd)) := HSD.out.below hb5
          have HO5 : Hid (OwnB w5 (G + 1) (.slice Ad nd cd) (spT b k)) := OwnV.keep HOD.out hb5
          have HB5 : Hid (Below w.heap.size w w5) := HBD.out.trans (hb5.mono HBD.out.size)
          rw [hw5]
          clear hw5 hb5
          try simp only [Act.put, List.setIfInBounds_toArray, List.set_cons_zero, List.set_cons_succ]
          refine schT_call rfl ?_
          intro K hK
          obtain ⟨i0, hi0, hz0, hz1, hz2⟩ := HI0.out
          refine wp_appV (.tmp 37) (.tmp 50) _ rfl (G + 1) 4 1 i0 _ Try.underlying22 hi0 hz0 hz1 hz2 rfl _ (booC (spT b k)) rfl HO5.out _ (booC [bt]) rfl HRW.out (booC_one _) (by have := HKM.out; simp only [booC_len, spT_len, List.length_cons, List.length_nil]; omega) (by have := HKM.out; simp only [booC_len, spT_len, List.length_cons, List.length_nil, maxLen]; omega) HS5.out.lt ?_
          intro dv2 w6 ho hg hat
          refine hK _ _ ((Below.refl _ _).grown hg HS5.out.lt (fun j hj => (World.ownsRow.lt HO5.out _ hj).1)) ?_
          clear hK K hat hi0 hz0 hz1 hz2 i0
          have hrow : ∀ r, (Value.slice Ad nd cd).ownBlock = some r → G + 1 ≤ r := fun r hr => (World.ownsRow.lt HO5.out _ hr).1
          have HT6 : Hid (SpBox w6 w.heap.size 0 (.slice none 0 0)) := SBox.grownO' HT5.out hg (fun e => by have := hrow _ e; have := HG.out; omega)
          have HS6 : Hid (SpBox w6 G (rdN b : Int) (.slice Ad nd cd)) := SBox.grownO' HS5.out hg (fun e => by have := hrow _ e; omega)
          have HO6 : Hid (OwnB w6 (G + 1) dv2 (spT b k ++ [bt])) := by rw [Hid, OwnB, booC_app]; exact ho
          have HB6 : Hid (Below w.heap.size w w6) := HB5.out.grown hg HB5.out.size (fun j hj => by have := hrow _ hj; have := HG.out; omega)
          clear ho hg hrow
          simp only [Act.put, List.setIfInBounds_toArray, List.set_cons_zero, List.set_cons_succ]
          (refine schT_take ?_ rfl ?_ ?_; rotate_left; (focus (intro u hu; go_simp <;> rfl)); simp only [Act.put, List.setIfInBounds_toArray, List.set_cons_zero, List.set_cons_succ])
          refine schT_nil ?_
          refine schT_last rfl rfl ?_
          refine wp_put1 22 (.tmp 52) (.tmp 51) rfl 1 dv2 rfl rfl (by obtain ⟨_, _, _, rfl, _, _, _⟩ := OwnB.boos HO6.out |>.form; rfl) boolsInfo1 _ HS6.out.c1 (HS6.out.frozen 1) ?_
          intro w7 hw7
          have hg7 : w6.grownBy w7 (some G) := by rw [hw7]; exact grown_set _ _ _ _
          have HT7 : Hid (SpBox w7 w.heap.size 0 (.slice none 0 0)) := HT6.out.grown hg7 (by have := HG.out; omega)
          have HS7 : Hid (SpBox w7 G (rdN b : Int) dv2) := by rw [hw7]; exact HS6.out.put1 _
          have HO7 : Hid (OwnB w7 (G + 1) dv2 (spT b k ++ [bt])) := World.ownsRow.kept HO6.out hg7 (.inr (fun e => by have := (World.ownsRow.lt HO6.out _ e).1; omega))
          have HB7 : Hid (Below w.heap.size w w7) := HB6.out.grown hg7 HB6.out.size (fun j e => by cases e; have := HG.out; omega)
          clear hw7 hg7
          go_wp2_with fail
          go_roundw
          all_goals first
            | exact ⟨k + 1, dv2, HLT.out, by push_cast; rfl, HT7.out, HS7.out, by (rw [spT_snoc, HBIT.out, ← HBT.out]; exact HO7.out), HB7.out⟩
            | (show rdK b - ((k : Int) + 1).toNat < rdK b - (k : Int).toNat; have := HLT.out; omega)
        · have i1 : (k : Int) < (rdN b : Int) := by omega
          have i2 : (k : Int) < 8 * ((n : Int) - 4) := by omega
          have i3 : ¬ (k : Int) < 4096 := by omega
          obtain rfl : k = rdK b := by unfold rdK at hk ⊢; omega
          have HBY := Lib.hid (r8Bytes_any wr (rdN b : Int) _ (spT b (rdK b)) HOR.out.boos (by rw [spT_len]; have := HKM.out; omega))
          clear hk hk1 hk2 hk3 hnb hL
          rcases HCS.out with ⟨h1, h2⟩ | ⟨xs, h0, h1, h2⟩ | ⟨h1, h2⟩
          · rw [h1] at HBY
            have H2 := Lib.hid h2
            have E := bytes_eq b b
            rw [decide_eq_true rfl] at E
            clear h1 h2
            go_wp2_with (refine wpList_loadS HSR.out Try.underlying24 spInfo rfl _ rfl rfl ?_)
            refine (HBY.out).mono ?_
            rintro e w7 ⟨xb, rfl, hxb, hb7⟩
            obtain ⟨Ax, nx, cx, rfl, NX, hxn, hxc⟩ := hxb.byt.form
            have HR7 : Hid (SpBox w7 w.heap.size 0 (.slice none 0 0)) := HTR.out.below hb7
            have HS7 : Hid (SpBox w7 G (rdN b : Int) (.slice Ad nd cd)) := HSR.out.below hb7
            have HO7 : Hid (OwnB w7 (G + 1) (.slice Ad nd cd) (spT b (rdK b))) := OwnV.keep HOR.out hb7
            have HB7 : Hid (Below w.heap.size w w7) := HBR.out.trans (hb7.mono HBR.out.size)
            have t1 := text_of hxb.byt
            have t2 := text_of (HV.out.below HB7.out)
            clear hxb hb7
            dsimp only at t1
            generalize (⟨b.toArray⟩ : ByteArray) = s1 at *
            go_wp2_with (first
              | (refine wpList_loadS HS7.out Try.underlying24 spInfo rfl _ rfl rfl ?_)
              | (refine wpList_storeS HR7.out spInfo rfl _ _ rfl rfl (ds := [.int .i64 (rdN b : Int), .slice Ad nd cd]) rfl rfl (one_sp _ _ _ _) ?_; intro w9 hR9 hg9 hz9))
            refine ret_s2 hR9 Try.underlying24 spInfo rfl rfl rfl _ rfl ?_
            rw [H2.out]
            exact ⟨_, rfl, OwnV.lower (World.ownsRow.kept HO7.out hg9 (.inr (fun e => by have := (World.ownsRow.lt HO7.out _ e).1; have := HG.out; omega))) (by have := HG.out; omega), HB7.out.grown hg9 HB7.out.size (fun k e => by cases e; omega)⟩
          · rw [h1] at HBY
            have H2 := Lib.hid h2
            have E := bytes_eq xs b
            rw [decide_eq_false h0] at E
            clear h0 h1 h2
            go_wp2_with (refine wpList_loadS HSR.out Try.underlying24 spInfo rfl _ rfl rfl ?_)
            refine (HBY.out).mono ?_
            rintro e w7 ⟨xb, rfl, hxb, hb7⟩
            obtain ⟨Ax, nx, cx, rfl, NX, hxn, hxc⟩ := hxb.byt.form
            have HR7 : Hid (SpBox w7 w.heap.size 0 (.slice none 0 0)) := HTR.out.below hb7
            have HS7 : Hid (SpBox w7 G (rdN b : Int) (.slice Ad nd cd)) := HSR.out.below hb7
            have HO7 : Hid (OwnB w7 (G + 1) (.slice Ad nd cd) (spT b (rdK b))) := OwnV.keep HOR.out hb7
            have HB7 : Hid (Below w.heap.size w w7) := HBR.out.trans (hb7.mono HBR.out.size)
            have t1 := text_of hxb.byt
            have t2 := text_of (HV.out.below HB7.out)
            clear hxb hb7
            dsimp only at t1
            generalize (⟨b.toArray⟩ : ByteArray) = s1 at *
            generalize (⟨xs.toArray⟩ : ByteArray) = s2 at *
            go_wp2_with (refine wpList_storeS HR7.out spInfo rfl _ _ rfl rfl (ds := [.int .i64 0, .slice none 0 0]) rfl rfl (nil_one 0) ?_; intro w9 hR9 hg9 hz9)
            refine ret_s2 hR9 Try.underlying24 spInfo rfl rfl rfl _ rfl ?_
            rw [H2.out]
            exact ⟨_, rfl, OwnV.nil _ _ _, HB7.out.grown hg9 HB7.out.size (fun k e => by cases e; omega)⟩
          · rw [h1] at HBY
            have H2 := Lib.hid h2
            clear h1 h2
            go_wp2_with (refine wpList_loadS HSR.out Try.underlying24 spInfo rfl _ rfl rfl ?_)
            refine (HBY.out).mono ?_
            rintro e w7 ⟨xb, rfl, hxb, hb7⟩
            obtain ⟨Ax, nx, cx, rfl, NX, hxn, hxc⟩ := hxb.byt.form
            have HR7 : Hid (SpBox w7 w.heap.size 0 (.slice none 0 0)) := HTR.out.below hb7
            have HS7 : Hid (SpBox w7 G (rdN b : Int) (.slice Ad nd cd)) := HSR.out.below hb7
            have HO7 : Hid (OwnB w7 (G + 1) (.slice Ad nd cd) (spT b (rdK b))) := OwnV.keep HOR.out hb7
            have HB7 : Hid (Below w.heap.size w w7) := HBR.out.trans (hb7.mono HBR.out.size)
            have t1 := text_of hxb.byt
            have t2 := text_of (HV.out.below HB7.out)
            clear hxb hb7
            clear t1 t2
            go_wp2_with (refine wpList_storeS HR7.out spInfo rfl _ _ rfl rfl (ds := [.int .i64 0, .slice none 0 0]) rfl rfl (nil_one 0) ?_; intro w9 hR9 hg9 hz9)
            refine ret_s2 hR9 Try.underlying24 spInfo rfl rfl rfl _ rfl ?_
            rw [H2.out]
            exact ⟨_, rfl, OwnV.nil _ _ _, HB7.out.grown hg9 HB7.out.size (fun k e => by cases e; omega)⟩
      · have i1 : (k : Int) < (rdN b : Int) := by omega
        have i2 : ¬ (k : Int) < 8 * ((n : Int) - 4) := by omega
        obtain rfl : k = rdK b := by unfold rdK at hk ⊢; omega
        have HBY := Lib.hid (r8Bytes_any wr (rdN b : Int) _ (spT b (rdK b)) HOR.out.boos (by rw [spT_len]; have := HKM.out; omega))
        clear hk hk1 hk2 hnb hL
        rcases HCS.out with ⟨h1, h2⟩ | ⟨xs, h0, h1, h2⟩ | ⟨h1, h2⟩
        · rw [h1] at HBY
          have H2 := Lib.hid h2
          have E := bytes_eq b b
          rw [decide_eq_true rfl] at E
          clear h1 h2
          go_wp2_with (refine wpList_loadS HSR.out Try.underlying24 spInfo rfl _ rfl rfl ?_)
          refine (HBY.out).mono ?_
          rintro e w7 ⟨xb, rfl, hxb, hb7⟩
          obtain ⟨Ax, nx, cx, rfl, NX, hxn, hxc⟩ := hxb.byt.form
          have HR7 : Hid (SpBox w7 w.heap.size 0 (.slice none 0 0)) := HTR.out.below hb7
          have HS7 : Hid (SpBox w7 G (rdN b : Int) (.slice Ad nd cd)) := HSR.out.below hb7
          have HO7 : Hid (OwnB w7 (G + 1) (.slice Ad nd cd) (spT b (rdK b))) := OwnV.keep HOR.out hb7
          have HB7 : Hid (Below w.heap.size w w7) := HBR.out.trans (hb7.mono HBR.out.size)
          have t1 := text_of hxb.byt
          have t2 := text_of (HV.out.below HB7.out)
          clear hxb hb7
          dsimp only at t1
          generalize (⟨b.toArray⟩ : ByteArray) = s1 at *
          go_wp2_with (first
            | (refine wpList_loadS HS7.out Try.underlying24 spInfo rfl _ rfl rfl ?_)
            | (refine wpList_storeS HR7.out spInfo rfl _ _ rfl rfl (ds := [.int .i64 (rdN b : Int), .slice Ad nd cd]) rfl rfl (one_sp _ _ _ _) ?_; intro w9 hR9 hg9 hz9))
          refine ret_s2 hR9 Try.underlying24 spInfo rfl rfl rfl _ rfl ?_
          rw [H2.out]
          exact ⟨_, rfl, OwnV.lower (World.ownsRow.kept HO7.out hg9 (.inr (fun e => by have := (World.ownsRow.lt HO7.out _ e).1; have := HG.out; omega))) (by have := HG.out; omega), HB7.out.grown hg9 HB7.out.size (fun k e => by cases e; omega)⟩
        · rw [h1] at HBY
          have H2 := Lib.hid h2
          have E := bytes_eq xs b
          rw [decide_eq_false h0] at E
          clear h0 h1 h2
          go_wp2_with (refine wpList_loadS HSR.out Try.underlying24 spInfo rfl _ rfl rfl ?_)
          refine (HBY.out).mono ?_
          rintro e w7 ⟨xb, rfl, hxb, hb7⟩
          obtain ⟨Ax, nx, cx, rfl, NX, hxn, hxc⟩ := hxb.byt.form
          have HR7 : Hid (SpBox w7 w.heap.size 0 (.slice none 0 0)) := HTR.out.below hb7
          have HS7 : Hid (SpBox w7 G (rdN b : Int) (.slice Ad nd cd)) := HSR.out.below hb7
          have HO7 : Hid (OwnB w7 (G + 1) (.slice Ad nd cd) (spT b (rdK b))) := OwnV.keep HOR.out hb7
          have HB7 : Hid (Below w.heap.size w w7) := HBR.out.trans (hb7.mono HBR.out.size)
          have t1 := text_of hxb.byt
          have t2 := text_of (HV.out.below HB7.out)
          clear hxb hb7
          dsimp only at t1
          generalize (⟨b.toArray⟩ : ByteArray) = s1 at *
          generalize (⟨xs.toArray⟩ : ByteArray) = s2 at *
          go_wp2_with (refine wpList_storeS HR7.out spInfo rfl _ _ rfl rfl (ds := [.int .i64 0, .slice none 0 0]) rfl rfl (nil_one 0) ?_; intro w9 hR9 hg9 hz9)
          refine ret_s2 hR9 Try.underlying24 spInfo rfl rfl rfl _ rfl ?_
          rw [H2.out]
          exact ⟨_, rfl, OwnV.nil _ _ _, HB7.out.grown hg9 HB7.out.size (fun k e => by cases e; omega)⟩
        · rw [h1] at HBY
          have H2 := Lib.hid h2
          clear h1 h2
          go_wp2_with (refine wpList_loadS HSR.out Try.underlying24 spInfo rfl _ rfl rfl ?_)
          refine (HBY.out).mono ?_
          rintro e w7 ⟨xb, rfl, hxb, hb7⟩
          obtain ⟨Ax, nx, cx, rfl, NX, hxn, hxc⟩ := hxb.byt.form
          have HR7 : Hid (SpBox w7 w.heap.size 0 (.slice none 0 0)) := HTR.out.below hb7
          have HS7 : Hid (SpBox w7 G (rdN b : Int) (.slice Ad nd cd)) := HSR.out.below hb7
          have HO7 : Hid (OwnB w7 (G + 1) (.slice Ad nd cd) (spT b (rdK b))) := OwnV.keep HOR.out hb7
          have HB7 : Hid (Below w.heap.size w w7) := HBR.out.trans (hb7.mono HBR.out.size)
          have t1 := text_of hxb.byt
          have t2 := text_of (HV.out.below HB7.out)
          clear hxb hb7
          clear t1 t2
          go_wp2_with (refine wpList_storeS HR7.out spInfo rfl _ _ rfl rfl (ds := [.int .i64 0, .slice none 0 0]) rfl rfl (nil_one 0) ?_; intro w9 hR9 hg9 hz9)
          refine ret_s2 hR9 Try.underlying24 spInfo rfl rfl rfl _ rfl ?_
          rw [H2.out]
          exact ⟨_, rfl, OwnV.nil _ _ _, HB7.out.grown hg9 HB7.out.size (fun k e => by cases e; omega)⟩
    · have i1 : ¬ (k : Int) < (rdN b : Int) := by omega
      obtain rfl : k = rdK b := by unfold rdK at hk ⊢; omega
      have HBY := Lib.hid (r8Bytes_any wr (rdN b : Int) _ (spT b (rdK b)) HOR.out.boos (by rw [spT_len]; have := HKM.out; omega))

      clear hk hk1 hnb hL
      rcases HCS.out with ⟨h1, h2⟩ | ⟨xs, h0, h1, h2⟩ | ⟨h1, h2⟩
      · rw [h1] at HBY
        have H2 := Lib.hid h2
        have E := bytes_eq b b
        rw [decide_eq_true rfl] at E
        clear h1 h2
        go_wp2_with (refine wpList_loadS HSR.out Try.underlying24 spInfo rfl _ rfl rfl ?_)
        refine (HBY.out).mono ?_
        rintro e w7 ⟨xb, rfl, hxb, hb7⟩
        obtain ⟨Ax, nx, cx, rfl, NX, hxn, hxc⟩ := hxb.byt.form
        have HR7 : Hid (SpBox w7 w.heap.size 0 (.slice none 0 0)) := HTR.out.below hb7
        have HS7 : Hid (SpBox w7 G (rdN b : Int) (.slice Ad nd cd)) := HSR.out.below hb7
        have HO7 : Hid (OwnB w7 (G + 1) (.slice Ad nd cd) (spT b (rdK b))) := OwnV.keep HOR.out hb7
        have HB7 : Hid (Below w.heap.size w w7) := HBR.out.trans (hb7.mono HBR.out.size)
        have t1 := text_of hxb.byt
        have t2 := text_of (HV.out.below HB7.out)
        clear hxb hb7
        dsimp only at t1
        generalize (⟨b.toArray⟩ : ByteArray) = s1 at *
        go_wp2_with (first
          | (refine wpList_loadS HS7.out Try.underlying24 spInfo rfl _ rfl rfl ?_)
          | (refine wpList_storeS HR7.out spInfo rfl _ _ rfl rfl (ds := [.int .i64 (rdN b : Int), .slice Ad nd cd]) rfl rfl (one_sp _ _ _ _) ?_; intro w9 hR9 hg9 hz9))
        refine ret_s2 hR9 Try.underlying24 spInfo rfl rfl rfl _ rfl ?_
        rw [H2.out]
        exact ⟨_, rfl, OwnV.lower (World.ownsRow.kept HO7.out hg9 (.inr (fun e => by have := (World.ownsRow.lt HO7.out _ e).1; have := HG.out; omega))) (by have := HG.out; omega), HB7.out.grown hg9 HB7.out.size (fun k e => by cases e; omega)⟩
      · rw [h1] at HBY
        have H2 := Lib.hid h2
        have E := bytes_eq xs b
        rw [decide_eq_false h0] at E
        clear h0 h1 h2
        go_wp2_with (refine wpList_loadS HSR.out Try.underlying24 spInfo rfl _ rfl rfl ?_)
        refine (HBY.out).mono ?_
        rintro e w7 ⟨xb, rfl, hxb, hb7⟩
        obtain ⟨Ax, nx, cx, rfl, NX, hxn, hxc⟩ := hxb.byt.form
        have HR7 : Hid (SpBox w7 w.heap.size 0 (.slice none 0 0)) := HTR.out.below hb7
        have HS7 : Hid (SpBox w7 G (rdN b : Int) (.slice Ad nd cd)) := HSR.out.below hb7
        have HO7 : Hid (OwnB w7 (G + 1) (.slice Ad nd cd) (spT b (rdK b))) := OwnV.keep HOR.out hb7
        have HB7 : Hid (Below w.heap.size w w7) := HBR.out.trans (hb7.mono HBR.out.size)
        have t1 := text_of hxb.byt
        have t2 := text_of (HV.out.below HB7.out)
        clear hxb hb7
        dsimp only at t1
        generalize (⟨b.toArray⟩ : ByteArray) = s1 at *
        generalize (⟨xs.toArray⟩ : ByteArray) = s2 at *
        go_wp2_with (refine wpList_storeS HR7.out spInfo rfl _ _ rfl rfl (ds := [.int .i64 0, .slice none 0 0]) rfl rfl (nil_one 0) ?_; intro w9 hR9 hg9 hz9)
        refine ret_s2 hR9 Try.underlying24 spInfo rfl rfl rfl _ rfl ?_
        rw [H2.out]
        exact ⟨_, rfl, OwnV.nil _ _ _, HB7.out.grown hg9 HB7.out.size (fun k e => by cases e; omega)⟩
      · rw [h1] at HBY
        have H2 := Lib.hid h2
        clear h1 h2
        go_wp2_with (refine wpList_loadS HSR.out Try.underlying24 spInfo rfl _ rfl rfl ?_)
        refine (HBY.out).mono ?_
        rintro e w7 ⟨xb, rfl, hxb, hb7⟩
        obtain ⟨Ax, nx, cx, rfl, NX, hxn, hxc⟩ := hxb.byt.form
        have HR7 : Hid (SpBox w7 w.heap.size 0 (.slice none 0 0)) := HTR.out.below hb7
        have HS7 : Hid (SpBox w7 G (rdN b : Int) (.slice Ad nd cd)) := HSR.out.below hb7
        have HO7 : Hid (OwnB w7 (G + 1) (.slice Ad nd cd) (spT b (rdK b))) := OwnV.keep HOR.out hb7
        have HB7 : Hid (Below w.heap.size w w7) := HBR.out.trans (hb7.mono HBR.out.size)
        have t1 := text_of hxb.byt
        have t2 := text_of (HV.out.below HB7.out)
        clear hxb hb7
        clear t1 t2
        go_wp2_with (refine wpList_storeS HR7.out spInfo rfl _ _ rfl rfl (ds := [.int .i64 0, .slice none 0 0]) rfl rfl (nil_one 0) ?_; intro w9 hR9 hg9 hz9)
        refine ret_s2 hR9 Try.underlying24 spInfo rfl rfl rfl _ rfl ?_
        rw [H2.out]
        exact ⟨_, rfl, OwnV.nil _ _ _, HB7.out.grown hg9 HB7.out.size (fun k e => by cases e; omega)⟩
theorem r8Read_any (w : World) (v : Value) (b : List UInt8) (hv : Byt w v b) (hlen : b.length ≤ 10000) :
    Calls Try.prog 27 #[v] w (SpOut w (spRead b)) := by
  by_cases h4 : 4 ≤ b.length
  · exact r8Read_ok w v b hv hlen h4
  · rw [spRead_not (fun h => h4 h.1)]
    obtain ⟨A, n, c, rfl, N, hnc, hcm⟩ := hv.form
    have hn4 : (n : Int) < 4 := by have := N.out; omega
    obtain ⟨w0, hw0⟩ : ∃ w0, w.alloc (.cells #[.int .i64 0, .slice none 0 0] 24) = w0 := ⟨_, rfl⟩
    have HR0 : Hid (SpBox w0 w.heap.size 0 (.slice none 0 0)) := hw0 ▸ SBox.new w 24 [.int .i64 0, .slice none 0 0]
    have HB0 : Hid (Below w.heap.size w w0) := hw0 ▸ below_new w _
    have HW0 := Lib.hid hw0
    clear hv hw0 hlen h4 N
    go_enter Try.func27, Try.ntmps27
    go_wp2_with (
      (rw [HW0.out]; refine wpList_storeS HR0.out spInfo rfl _ _ rfl rfl (ds := [.int .i64 0, .slice none 0 0]) rfl rfl (nil_one 0) ?_; intro w9 hR9 hg9 hz9))
    refine ret_s2 hR9 Try.underlying24 spInfo rfl rfl rfl _ rfl ?_
    exact ⟨_, rfl, OwnV.nil _ _ _, HB0.out.grown hg9 HB0.out.size (fun k e => by cases e; omega)⟩
end Go.Proofs.Ytncjobeahpjnpaa
