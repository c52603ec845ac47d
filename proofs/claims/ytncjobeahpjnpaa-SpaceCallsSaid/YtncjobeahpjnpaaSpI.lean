/-
  Package space's Bytes by its contract. Conditions: at most 2^46 bools.
-/
import Derived.Test.YtncjobeahpjnpaaSpH
import Derived.Test.YtncjobeahpjnpaaOrdR
import Derived.Test.YtncjobeahpjnpaaRd1
namespace Go.Proofs.Ytncjobeahpjnpaa
open Go.RowKit Go.Shelf Go.Maps
set_option maxRecDepth 100000
attribute [local go_sem] Oper.semAt_some

/-- What Bytes leaves. -/
def ByOut (w : World) (r : List UInt8 × Nat) (e : Ending) (w' : World) : Prop := ∃ x, e = .returned (.tuple #[x, .int .i64 (r.2 : Int)]) ∧ Own w' w.heap.size 5 x r.1 ∧ Below w.heap.size w w'
theorem byteInfo1 : (Try.prog.info? 5).map (·.size) = some 1 := by kernel_rfl
/-- 'uint64(n)'. -/
theorem conv_iu (u : World) (n : Nat) (h : n < 4294967296) (o : Oper) (x : Operand) {a : Act} (ho : o.op = .convert 3 58 x) (hx : a.eval x = .int .i64 (n : Int)) : (execOp a.eval o).run Try.prog u = .ok (.value (.int .u64 (n : Int))) u := by
  unfold execOp
  rw [ho]
  generalize a.eval = ρ at *
  go_simp
  rw [IntKind.wrap_u64]
  omega
theorem or_bit : ∀ (y : Fin 256) (k : Fin 8), bits .or .u8 (y.val : Int) ((2 ^ k.val : Nat) : Int) = ((UInt8.ofNat (y.val ||| 2 ^ k.val)).toNat : Int) := by decide +kernel
theorem or_bit_nat (y k : Nat) (hy : y < 256) (hk : k < 8) : bits .or .u8 (y : Int) ((2 ^ k : Nat) : Int) = ((UInt8.ofNat (y ||| 2 ^ k)).toNat : Int) := or_bit ⟨y, hy⟩ ⟨k, hk⟩
section
variable {o : Oper} {a : Act} (u : World) (x y : Operand)
theorem exec_quo8 (j q : Nat) (hq : q = j / 8) (hj : j < 1000000) (ho : o.op = .binOp .quo 3 x (.const (.int .i64 8)) 3) (hx : a.eval x = .int .i64 (j : Int)) : (execOp a.eval o).run Try.prog u = .ok (.value (.int .i64 (q : Int))) u := by
  unfold execOp
  rw [ho]
  subst hq
  have hc : a.eval (.const (.int .i64 8)) = .int .i64 8 := rfl
  generalize a.eval = ρ at *
  go_simp
  rw [IntKind.wrap_i64]
  omega
theorem exec_rem8 (j : Nat) (ho : o.op = .binOp .rem 3 x (.const (.int .i64 8)) 3) (hx : a.eval x = .int .i64 (j : Int)) : (execOp a.eval o).run Try.prog u = .ok (.value (.int .i64 ((j % 8 : Nat) : Int))) u := by
  unfold execOp
  rw [ho]
  have hc : a.eval (.const (.int .i64 8)) = .int .i64 8 := rfl
  generalize a.eval = ρ at *
  go_simp
  exact Int.tmod_eq_emod_of_nonneg (by omega)
theorem exec_shl1 (k : Nat) (hk : k < 8) (ho : o.op = .binOp .shl 5 (.const (.int .u8 1)) x 3) (hx : a.eval x = .int .i64 (k : Int)) : (execOp a.eval o).run Try.prog u = .ok (.value (.int .u8 ((2 ^ k : Nat) : Int))) u := by
  unfold execOp
  rw [ho]
  have hc : a.eval (.const (.int .u8 1)) = .int .u8 1 := rfl
  generalize a.eval = ρ at *
  have h8 : k = 0 ∨ k = 1 ∨ k = 2 ∨ k = 3 ∨ k = 4 ∨ k = 5 ∨ k = 6 ∨ k = 7 := by omega
  rcases h8 with rfl | rfl | rfl | rfl | rfl | rfl | rfl | rfl <;> go_simp <;> rfl
theorem exec_or8 (b k : Nat) (hb : b < 256) (hk : k < 8) (ho : o.op = .binOp .or 5 x y 5) (hx : a.eval x = .int .u8 (b : Int)) (hy : a.eval y = .int .u8 ((2 ^ k : Nat) : Int)) : (execOp a.eval o).run Try.prog u = .ok (.value (.int .u8 (((UInt8.ofNat (b ||| 2 ^ k)).toNat : Nat) : Int))) u := by
  unfold execOp
  rw [ho]
  have e := or_bit_nat b k hb hk
  generalize ((UInt8.ofNat (b ||| 2 ^ k)).toNat : Int) = r at *
  generalize ((2 ^ k : Nat) : Int) = q at *
  generalize a.eval = ρ at *
  go_simp
end
/-- 's[4:]'. -/
theorem cut_four (g K c M : Nat) (hK : K = 4 + M) (hM : 0 < M) (hc : K ≤ c) : ∀ W, (Instr.slice 36 (.slice (some ⟨g, 0, none⟩) K c) (some (.int .i64 4)) none none).run Try.prog W = .ok (.slice (some ⟨g, 4, none⟩) M (c - 4)) W := by
  intro W
  rw [run_slice_l W 36 _ K c elemByte .i64 4 (by omega) (by omega), sizeByte]
  simp only [Result.andThen, sliced, show (4 : Int).toNat = 4 from rfl]
  rw [if_neg (by omega)]
  simp [plainAdd]
  omega
theorem SBox.turn {W W' : World} {g B : Nat} {t : TypeId} {cs : List Value} {row : Option Nat} (h : SBox W g t cs) (hB : g < B) (hg : W.grownBy W' row) (hr : ∀ r, row = some r → B ≤ r) : SBox W' g t cs :=
  h.same (hg.block g h.lt (by intro e; have := hr g e.symm; omega))
theorem own_cellU {w : World} {B g n c : Nat} {l : List UInt8} (h : Own w B 5 (.slice (some ⟨g, 0, none⟩) n c) l) {j : Nat} (hj : j < l.length) : w.cell? ⟨g, j, none⟩ = some (.int .u8 (l[j].toNat : Int)) := by
  have := World.ownsRow.cells h (g := g) rfl j (.int .u8 (l[j].toNat : Int)) (by simp [byc, hj])
  rw [plainAdd, Nat.zero_add] at this
  exact this
theorem own_frozenU {w : World} {B g n c : Nat} {l : List UInt8} (h : Own w B 5 (.slice (some ⟨g, 0, none⟩) n c) l) (j : Nat) : w.frozen? ⟨g, j, none⟩ = false := by
  rcases h.2 with ⟨e, _⟩ | ⟨g', cap, cur, e, _, hg, _⟩
  · cases e
  · injection e with e1 _ _
    injection e1 with e1
    injection e1 with e1 _ _
    subst e1
    simp [World.frozen?, hg]
theorem own_setU {w : World} {B g n c : Nat} {l : List UInt8} (h : Own w B 5 (.slice (some ⟨g, 0, none⟩) n c) l) (hl : l.length = n) (j : Nat) (x : UInt8) :
    Own (w.setCell ⟨g, j, none⟩ (.int .u8 (x.toNat : Int))) B 5 (.slice (some ⟨g, 0, none⟩) n c) (l.set j x) := by
  unfold Own at h ⊢
  rw [List.length_set]
  rw [hl] at h ⊢
  have := World.ownsRow.stored h j (.int .u8 (x.toNat : Int))
  have e : byc (l.set j x) = (byc l).set j (.int .u8 (x.toNat : Int)) := by simp [byc, List.map_set]
  rw [e]
  exact this.1
theorem bytes1 : (Try.prog.info? 36).map (·.size) = some 1 := by kernel_rfl
set_option maxHeartbeats 2000000 in
theorem spBytes_not (w : World) (p : Int) (v : Value) (l : List Bool) (hv : Boos w v l) (hlen : l.length ≤ 70368744177664) (hok : ¬ spOk p l) :
    Calls Try.prog 23 #[.agg #[.int .i64 p, v]] w (ByOut w ([], 2)) := by
  obtain ⟨w0, hw0⟩ : ∃ w0, w.alloc (.cells #[.int .i64 p, v] 24) = w0 := ⟨_, rfl⟩
  have hb0 : Below w.heap.size w w0 := hw0 ▸ below_new w _
  have HCK := Lib.hid (spcheck_any w0 p v l (hv.below hb0) hlen)
  rw [if_neg hok] at HCK
  obtain ⟨A, n, c, rfl, N, hnc, hcm⟩ := hv.form
  have HW0 := Lib.hid hw0
  have HB0 := Lib.hid hb0
  clear hv hlen hok hw0 hb0
  go_enter Try.func23, Try.ntmps23
  go_wp2_with fail
  rw [HW0.out]
  refine HCK.out.mono ?_
  rintro e w1 ⟨rfl, hb1⟩
  have HB1 : Hid (Below w.heap.size w w1) := HB0.out.trans (hb1.mono HB0.out.size)
  clear hb1
  go_wp2_with fail
  go_ret2
  exact ⟨_, rfl, World.ownsRow_nil _ _ _ _, HB1.out⟩

set_option maxRecDepth 100000 in
set_option maxHeartbeats 4000000 in
theorem spBytes_ok (w : World) (p : Int) (v : Value) (l : List Bool) (hv : Boos w v l) (hok : spOk p l) :
    Calls Try.prog 23 #[.agg #[.int .i64 p, v]] w (ByOut w (spB p l, 0)) := by
  have hl := spOk_len hok
  obtain ⟨P, hP⟩ : ∃ P, P = l.length := ⟨_, rfl⟩
  obtain rfl : p = (P : Int) := by omega
  obtain ⟨w0, hw0⟩ : ∃ w0, w.alloc (.cells #[.int .i64 (P : Int), v] 24) = w0 := ⟨_, rfl⟩
  have hb0 : Below w.heap.size w w0 := hw0 ▸ below_new w _
  have hA : SpBox w0 w.heap.size P v := hw0 ▸ SBox.new w 24 [.int .i64 (P : Int), v]
  have HCK := Lib.hid (spcheck_any w0 P v l (hv.below hb0) (by omega))
  rw [if_pos hok] at HCK
  have HV := Lib.hid hv
  obtain ⟨A, n, c, rfl, N, hnc, hcm⟩ := hv.form
  have HW0 := Lib.hid hw0
  have HB0 := Lib.hid hb0
  have HA := Lib.hid hA
  have HP := Lib.hid hP
  have HP4 : Hid (8 ≤ P ∧ P ≤ 4096) := show 8 ≤ P ∧ P ≤ 4096 by omega
  clear hv hok hl hw0 hb0 hA hP
  refine (callsIn_wide (n := 3)).1 ?_
  refine callsIn_of_wp_marks Try.func23 rfl trivial ?_ rfl
  simp only [Try.ntmps23, List.size_toArray, List.length_cons, List.length_nil, Nat.reduceAdd, Nat.reduceSub, Array.replicate_succ, Array.replicate_zero, List.push_toArray, List.append_toArray, List.nil_append, List.cons_append]
  refine wpIn_wide.2 ?_
  go_wp2_with fail
  rw [HW0.out]
  refine HCK.out.mono ?_
  rintro e w1 ⟨rfl, hb1⟩
  have HB1 : Hid (Below w.heap.size w w1.drew) := (HB0.out.trans (hb1.mono HB0.out.size)).drew
  have HA1 : Hid (SpBox w1.drew w.heap.size P (.slice A n c)) := HA.out.below hb1.drew
  clear hb1
  go_wp2_with fail
  refine wp_onlyN ?_
  refine wp_region_R (R := fun x y => Below (w.heap.size + 1) x y) (by kernel_rfl) (fun _ => Below.refl _ _) (fun h k => h.trans k) (by kernel_rfl) (fun d v c a w h => by cases d <;> exact h)
    [(0, false), (1, false), (2, false), (4, false), (5, false), (3, true), (6, true), (7, true), (8, false)] rfl (by kernel_rfl) (by kernel_rfl) ?_
  simp only [sel, List.getElem?_toArray, List.getElem?_cons_succ, List.getElem?_cons_zero]

  generalize w1.drew = wd at *
  (refine sch_take ?_ rfl ?_ ?_; rotate_left; (focus (intro u hu; go_simp <;> rfl)); simp only [Act.put, List.setIfInBounds_toArray, List.set_cons_zero, List.set_cons_succ])
  (refine sch_take ?_ rfl ?_ ?_; rotate_left; (focus (intro u hu; have c0 := (hu.cell (p := ⟨w.heap.size, 0, none⟩) (Nat.lt_succ_self _)).trans (SpBox.c0 HA1.out); clear hu; go_simp <;> rfl)); simp only [Act.put, List.setIfInBounds_toArray, List.set_cons_zero, List.set_cons_succ])
  (refine sch_take (.int .u64 (P : Int)) rfl ?_ ?_; focus (intro u hu; exact conv_iu u P (by have := HP4.out; omega) _ _ rfl rfl))
  simp only [Act.put, List.setIfInBounds_toArray, List.set_cons_zero, List.set_cons_succ]
  (refine sch_take ?_ rfl ?_ ?_; rotate_left; (focus (intro u hu; go_simp <;> rfl)); simp only [Act.put, List.setIfInBounds_toArray, List.set_cons_zero, List.set_cons_succ])
  (refine sch_take ?_ rfl ?_ ?_; rotate_left; (focus (intro u hu; have c0 := (hu.cell (p := ⟨w.heap.size, 0, none⟩) (Nat.lt_succ_self _)).trans (SpBox.c0 HA1.out); clear hu; go_simp <;> rfl)); simp only [Act.put, List.setIfInBounds_toArray, List.set_cons_zero, List.set_cons_succ])
  refine sch_call rfl ?_
  intro K hK
  go_simp
  refine (word_is wd (.slice none 0 0) [] P 4 (Byt.nil _) (by have := HP4.out; omega) (by omega) (by simp)).mono ?_
  rintro e w2 ⟨v2, rfl, ho2, hb2⟩
  go_wp2_with fail
  refine hK _ _ (hb2.mono HA1.out.lt) ?_
  clear hK K
  have HO2 : Hid (Own w2 w.heap.size 5 v2 (wordB 4 P)) := Own.lower ho2 HB1.out.size
  have HB2 : Hid (Below w.heap.size w w2) := HB1.out.trans (hb2.mono HB1.out.size)
  have HA2 : Hid (SpBox w2 w.heap.size P (.slice A n c)) := HA1.out.below hb2
  have HBX2 : Hid (Below (w.heap.size + 1) wd w2) := hb2.mono HA1.out.lt
  have HR2 : Hid (Own w2 (w.heap.size + 1) 5 v2 (wordB 4 P)) := Own.lower ho2 HA1.out.lt
  clear ho2 hb2
  refine sch_call rfl ?_
  intro K hK
  go_simp
  refine (bitssize_any (P : Int) w2 (by have := HP4.out; omega) (by have := HP4.out; omega)).mono ?_
  rintro e w2x ⟨rfl, rfl⟩
  go_wp2_with fail
  refine hK _ _ (Below.refl _ _) ?_
  clear hK K
  refine sch_call rfl ?_
  intro K hK
  refine wp_appM _ _ rfl w.heap.size _ (wordB 4 P) rfl HO2.out _ (spM P) rfl rfl (by rw [wordB_len]; have := HP4.out; unfold spM; omega) HB2.out.size ?_
  intro v3 w3 ho3 hg3
  refine hK _ _ ((Below.refl _ _).grown hg3 HA2.out.lt (fun k hk => (World.ownsRow.lt HR2.out _ hk).1)) ?_
  clear hK K
  have HO3 := Lib.hid ho3
  have HA3 : Hid (SpBox w3 w.heap.size P (.slice A n c)) := SBox.same HA2.out (hg3.block _ HA2.out.lt (fun e => by have := (World.ownsRow.lt HR2.out _ e.symm).1; omega))
  have HB3 : Hid (Below w.heap.size w w3) := HB2.out.grown hg3 HB2.out.size (fun k hk => by have := (World.ownsRow.lt HR2.out _ hk).1; omega)
  clear ho3 hg3
  simp only [Act.put, List.setIfInBounds_toArray, List.set_cons_zero, List.set_cons_succ]
  (refine sch_take ?_ rfl ?_ ?_; rotate_left; (focus (intro u hu; go_simp <;> rfl)); simp only [Act.put, List.setIfInBounds_toArray, List.set_cons_zero, List.set_cons_succ])
  refine sch_nilN ?_

  obtain ⟨g, c3, rfl, hBg, hg, hc31, hc32, _, _⟩ := OwnV.form (vs := byc (wordB 4 P ++ zsB (spM P))) (by unfold OwnV; rw [byc_len]; exact HO3.out) (by rw [byc_len, List.length_append, wordB_len]; omega)
  rw [byc_len, List.length_append, wordB_len, zsB_len] at hc31 HO3 ⊢
  obtain ⟨M, hM⟩ : ∃ M, M = spM P := ⟨_, rfl⟩
  rw [← hM] at hc31 HO3 ⊢
  obtain ⟨K, hK⟩ : ∃ K, K = 4 + M := ⟨_, rfl⟩
  rw [← hK] at hc31 HO3 ⊢
  obtain ⟨C, hC⟩ : ∃ C, C = c3 - 4 := ⟨_, rfl⟩
  have hM0 : 0 < M := by have := HP4.out; rw [hM]; unfold spM; omega
  have hcut := cut_four g K c3 M hK hM0 hc31
  rw [← hC] at hcut
  have HM := Lib.hid hM
  have HKM := Lib.hid hK
  have HG : Hid (w.heap.size + 1 ≤ g ∧ g < w3.heap.size) := ⟨by
    rcases Nat.lt_or_ge w.heap.size g with h | h
    · exact h
    · obtain rfl : g = w.heap.size := by omega
      have h1 := HA3.out
      rcases HO3.out.2 with ⟨e, _⟩ | ⟨g', cap, cur, e, _, hgg, _⟩
      · cases e
      · injection e with e1 _ _
        injection e1 with e1
        injection e1 with e1 _ _
        subst e1
        unfold SpBox SBox at h1
        rw [hgg] at h1
        injection h1 with h1
        injection h1 with _ h1 _
        exact absurd h1 (by decide), hg⟩
  have HM512 : Hid (M ≤ 512) := by have := HP4.out; rw [Hid, hM]; unfold spM; omega
  clear hM hK hC hM0 hBg hg
  go_wp2_with (first
    | (refine wpList_put1 36 rfl (.tmp 6) (.tmp 22) rfl 0 (.slice (some ⟨g, 4, none⟩) M C) rfl rfl rfl bytes1 _ ((SBox.new w3 36 [.slice none 0 0]).cell 0 _ rfl) ((SBox.new w3 36 [.slice none 0 0]).frozen 0) ?_; intro w4 hw4
       have hg4 : (w3.alloc (.cells #[.slice none 0 0] 36)).grownBy w4 (some w3.heap.size) := by rw [hw4]; exact grown_set _ _ _ _
       have HX4 : Hid (SBox w4 w3.heap.size 36 [.slice (some ⟨g, 4, none⟩) M C]) := by rw [hw4]; exact (SBox.new w3 36 [.slice none 0 0]).put 0 _
       have HA4 : Hid (SpBox w4 w.heap.size P (.slice A n c)) := (HA3.out.alloc _).grown hg4 (by have := HA3.out.lt; omega)
       have HO4 : Hid (Own w4 w.heap.size 5 (.slice (some ⟨g, 0, none⟩) K c3) (wordB 4 P ++ zsB M)) := World.ownsRow.kept (World.ownsRow.alloc HO3.out _) hg4 (.inr (by have := HG.out; simp [Value.ownBlock]; omega))
       have HB4 : Hid (Below w.heap.size w w4) := (HB3.out.alloc HB3.out.size _).grown hg4 (by have := HB3.out.size; simp; omega) (fun k e => by cases e; exact HB3.out.size)
       have HZ4 : Hid (w3.heap.size < w4.heap.size) := HX4.out.lt
       have c0 := HA4.out.c0
       have c1 := HA4.out.c1
       clear hw4 hg4))
  refine (those_any w4 (P : Int) (.slice A n c) true).mono ?_
  rintro e w5 ⟨rfl, hw5⟩
  have hz5 : w5.heap.size = w4.heap.size + 2 := by rw [hw5]; simp
  have hbs : SpBox w5 w4.heap.size P (.slice A n c) := by rw [hw5]; exact (SBox.new w4 24 [.int .i64 (P : Int), .slice A n c]).alloc _
  have hbu : SBox w5 (w4.heap.size + 1) 4 [.bool true] := by
    have := SBox.new (w4.alloc (.cells #[.int .i64 (P : Int), .slice A n c] 24)) 4 [.bool true]
    rw [World.size_alloc] at this
    rw [hw5]
    exact this
  have hb5 : Below w4.heap.size w4 w5 := by rw [hw5]; exact (below_new w4 _).trans ((below_new _ _).mono (by simp))
  have HB5 : Hid (Below w.heap.size w w5) := HB4.out.trans (hb5.mono HB4.out.size)
  have HX5 : Hid (SBox w5 w3.heap.size 36 [.slice (some ⟨g, 4, none⟩) M C]) := HX4.out.below hb5
  have HO5 : Hid (Own w5 w.heap.size 5 (.slice (some ⟨g, 0, none⟩) K c3) (wordB 4 P ++ zsB M)) := Own.keep HO4.out hb5
  have HZ5 : Hid (w5.heap.size = w4.heap.size + 2) := hz5
  have HSQ := Lib.hid (those_stops Fence.wide 2 trivial rfl (by omega) w4.heap.size (w4.heap.size + 1) w (.slice A n c) l true HV.out w5 HB5.out (by omega) (by omega) hbs.c1 (hbu.cell 0 _ rfl))
  clear hw5 hz5 hbs hbu hb5 c0 c1 hcut
  go_wp2_with fail
  refine (wpIn_wide (n := 3)).1 ?_
  refine wpIn_rangeFunc_ownG rfl (by omega) (gf := 50) (lb := #[.pointer (some ⟨w4.heap.size, 0, none⟩), .pointer (some ⟨w4.heap.size + 1, 0, none⟩)]) rfl trivial (enters_of Try.func50 (by kernel_rfl) rfl)
    HSQ.out (fun h k => h.trans k) (KpS.obj (w := w5) HB5.out.size (by have := HZ5.out; omega)) (Below.refl _ _) (fun _ => rfl)
    (fun (pre : List (Ix l true)) W => SBox W w3.heap.size 36 [.slice (some ⟨g, 4, none⟩) M C] ∧ Own W w.heap.size 5 (.slice (some ⟨g, 0, none⟩) K c3) (wordB 4 P ++ bitsF M (fun n => decide (n ∈ ixs pre))) ∧ Below w.heap.size w W)
    (fun _ _ _ => False)
    (fun s X Y row hs hg hr => ⟨hs.1.turn HX5.out.lt hg (fun r e => (hr r e).1), ownsRow_turn hs.2.1 hg (fun r e => (hr r e).2), below_turn hs.2.2 HB5.out.size hg (fun r e => (hr r e).1)⟩)
    (fun _ _ _ _ _ hs _ _ => hs)
    ⟨HX5.out, by rw [show bitsF M (fun n => decide (n ∈ ixs ([] : List (Ix l true)))) = zsB M from bitsF_none M]; exact HO5.out, HB5.out⟩
    (fun x => { tmps := #[.agg #[.int .i64 (P : Int), .slice A n c], .pointer (some ⟨w.heap.size, 0, none⟩), .slice none 0 0, .int .i64 0, .int .i64 0, .slice (some ⟨g, 0, none⟩) K c3, .pointer (some ⟨w3.heap.size, 0, none⟩), .int .i64 (x.1 : Int),
      .agg #[.int .i64 (P : Int), .slice A n c], .int .i64 0, .int .i64 0, .bool false, undef, .pointer (some ⟨w.heap.size, 0, none⟩), .int .i64 (P : Int), .int .u64 (P : Int), v2, .pointer (some ⟨w.heap.size, 0, none⟩), .int .i64 (P : Int), .int .i64 (M : Int), .slice (some ⟨g, 0, none⟩) K c3,
      .slice (some ⟨g, 0, none⟩) K c3, .slice (some ⟨g, 4, none⟩) M C, .agg #[.int .i64 (P : Int), .slice A n c],
      .func (.func 50) #[] #[.pointer (some ⟨w4.heap.size, 0, none⟩), .pointer (some ⟨w4.heap.size + 1, 0, none⟩)], .int .i64 (x.1 : Int), undef, undef, undef, undef, undef, undef, undef, undef, undef, undef, undef], defers := [] }) ?assign ?body ?done ?stop
  case assign =>
    intro lp x W K' hK
    gi_wp2
    exact hK
  case body =>
    rintro lp pre x W ⟨hX, hO, hB⟩ hlen
    have hxl : x.1 < P := by rw [HP.out]; exact (List.getElem?_eq_some_iff.1 x.2).1
    obtain ⟨f, hf⟩ : ∃ f : Nat → Bool, f = fun n => decide (n ∈ ixs pre) := ⟨_, rfl⟩
    have HF : Hid ((fun n => decide (n ∈ ixs (pre ++ [x]))) = fun n => f n || n == x.1) := by
      rw [Hid, hf]
      funext n
      rw [ixs_snoc]
      simp [Bool.decide_or]
      rfl
    rw [← hf] at hO
    obtain ⟨j, hj⟩ : ∃ j, j = x.1 := ⟨_, rfl⟩
    rw [← hj] at hxl HF ⊢
    obtain ⟨q, hq⟩ : ∃ q, q = j / 8 := ⟨_, rfl⟩
    have h8 : q < M := by rw [HM.out]; unfold spM; omega
    have h8i : (q : Int) < (M : Int) := by omega
    obtain ⟨y, hy⟩ : ∃ y, y = bsum (fun i => f (8 * q + i)) 8 := ⟨_, rfl⟩
    have hy256 : y < 256 := by rw [hy]; exact bsum_lt _ 8
    have hLlen : (wordB 4 P ++ bitsF M f).length = K := by rw [List.length_append, wordB_len, bitsF_len]; exact HKM.out.symm
    have hcell : W.drew.cell? ⟨g, 4 + q, none⟩ = some (.int .u8 (y : Int)) := by
      have hlt : 4 + q < (wordB 4 P ++ bitsF M f).length := by rw [List.length_append, wordB_len, bitsF_len]; omega
      have := own_cellU hO hlt
      rw [List.getElem_append_right (by rw [wordB_len]; omega)] at this
      simp only [wordB_len, Nat.add_sub_cancel_left] at this
      rw [bitsF_nat M f _ h8, ← hy] at this
      exact this
    have HSET : Hid ((wordB 4 P ++ bitsF M f).set (4 + q) (UInt8.ofNat (y ||| 2 ^ (j % 8))) = wordB 4 P ++ bitsF M (fun n => f n || n == j)) := by
      rw [Hid, List.set_append_right _ _ (by rw [wordB_len]; omega), wordB_len, Nat.add_sub_cancel_left, bitsF_set, hy, hq]
    have HXW : Hid (SBox W.drew w3.heap.size 36 [.slice (some ⟨g, 4, none⟩) M C]) := hX
    have HOW : Hid (Own W.drew w.heap.size 5 (.slice (some ⟨g, 0, none⟩) K c3) (wordB 4 P ++ bitsF M f)) := hO
    have HBW : Hid (Below w.heap.size w W.drew) := hB.drew
    have HWD : Hid (KeepsOthers W W.drew) := KeepsOthers.drew W
    have HWB : Hid (Below w.heap.size W W.drew) := (Below.refl _ _).drew
    have HWH : Hid (W.drew.heap = W.heap) := rfl
    have HLL := Lib.hid hLlen
    have HC := Lib.hid hcell
    have HY := Lib.hid hy256
    have HJ := Lib.hid hj
    have HQ := Lib.hid hq
    clear hX hO hB hlen hxl hf hcell hLlen hy hj hq
    gi_wp2
    refine wpIn_onlyN ?_
    refine wpIn_region_T (by kernel_rfl) onlyN_lets (R := fun x y => x = y) (by kernel_rfl) (fun _ => rfl) (fun h k => h.trans k) (by kernel_rfl) 10 rfl (by kernel_rfl) (by kernel_rfl) (fun d v c a w h => by cases d <;> exact h)
      [(0, false), (1, false), (2, false), (3, false), (4, false), (5, false), (6, false), (7, false), (8, false), (9, false)] rfl (by kernel_rfl) ?_
    simp only [sel, List.getElem?_toArray, List.getElem?_cons_succ, List.getElem?_cons_zero]
    generalize W.drew = wd at *
    (refine schT_take ?_ rfl ?_ ?_; rotate_left; (focus (intro u hu; subst hu; have c0 := HXW.out.cell 0 _ rfl; go_simp <;> rfl)); simp only [Act.put, List.setIfInBounds_toArray, List.set_cons_zero, List.set_cons_succ])
    (refine schT_take ?_ rfl ?_ ?_; rotate_left; (focus (intro u hu; go_simp <;> rfl)); simp only [Act.put, List.setIfInBounds_toArray, List.set_cons_zero, List.set_cons_succ])
    (refine schT_take (.int .i64 (q : Int)) rfl ?_ ?_; focus (intro u hu; exact exec_quo8 u _ j q HQ.out (by have := HM512.out; have := HQ.out; omega) rfl rfl))
    simp only [Act.put, List.setIfInBounds_toArray, List.set_cons_zero, List.set_cons_succ]
    (refine schT_take ?_ rfl ?_ ?_; rotate_left; (focus (intro u hu; go_simp <;> rfl)); simp only [Act.put, List.setIfInBounds_toArray, List.set_cons_zero, List.set_cons_succ])
    (refine schT_take ?_ rfl ?_ ?_; rotate_left; (focus (intro u hu; subst hu; have c4 := HC.out; go_simp <;> rfl)); simp only [Act.put, List.setIfInBounds_toArray, List.set_cons_zero, List.set_cons_succ])
    (refine schT_take ?_ rfl ?_ ?_; rotate_left; (focus (intro u hu; go_simp <;> rfl)); simp only [Act.put, List.setIfInBounds_toArray, List.set_cons_zero, List.set_cons_succ])
    (refine schT_take (.int .i64 ((j % 8 : Nat) : Int)) rfl ?_ ?_; focus (intro u hu; exact exec_rem8 u _ j rfl rfl))
    simp only [Act.put, List.setIfInBounds_toArray, List.set_cons_zero, List.set_cons_succ]
    (refine schT_take (.int .u8 ((2 ^ (j % 8) : Nat) : Int)) rfl ?_ ?_; focus (intro u hu; exact exec_shl1 u _ (j % 8) (Nat.mod_lt _ (by omega)) rfl rfl))
    simp only [Act.put, List.setIfInBounds_toArray, List.set_cons_zero, List.set_cons_succ]
    (refine schT_take (.int .u8 (((UInt8.ofNat (y ||| 2 ^ (j % 8))).toNat : Nat) : Int)) rfl ?_ ?_; focus (intro u hu; exact exec_or8 u _ _ y (j % 8) HY.out (Nat.mod_lt _ (by omega)) rfl rfl rfl))
    simp only [Act.put, List.setIfInBounds_toArray, List.set_cons_zero, List.set_cons_succ]
    (refine schT_take ?_ rfl ?_ ?_; rotate_left; (focus (intro u hu; go_simp <;> rfl)); simp only [Act.put, List.setIfInBounds_toArray, List.set_cons_zero, List.set_cons_succ])
    refine schT_nil ?_
    refine schT_lastN rfl rfl ?_
    refine wp_put1 5 _ _ rfl (4 + q) (.int .u8 (((UInt8.ofNat (y ||| 2 ^ (j % 8))).toNat : Nat) : Int)) rfl rfl rfl byteInfo1 _ HC.out (own_frozenU HOW.out (4 + q)) ?_
    intro w9 hw9
    have hg2 : wd.grownBy w9 (some g) := by rw [hw9]; exact grown_set _ _ _ _
    have hgw : w.heap.size ≤ g ∧ g < w5.heap.size := by have := HG.out; have := HZ5.out; have := HZ4.out; omega
    show KeepsFrom w5.heap.size W _ ∧ KpS w.heap.size (w4.heap.size + 1) W _ ∧ SBox _ w3.heap.size 36 [.slice (some ⟨g, 4, none⟩) M C] ∧ Own _ w.heap.size 5 (.slice (some ⟨g, 0, none⟩) K c3) _ ∧ Below w.heap.size w _
    refine ⟨(HWD.out.from _).trans (KeepsFrom.of_grownBy hg2 (fun j e => by cases e; exact hgw.2)), ⟨HWB.out.grown hg2 HBW.out.size (fun k e => by cases e; exact hgw.1), ?_⟩, ?_, ?_, HBW.out.grown hg2 HBW.out.size (fun k e => by cases e; exact hgw.1)⟩
    · rw [hw9, heap_cell_other (by have := HG.out; have := HZ4.out; omega), HWH.out]
    · exact HXW.out.grown hg2 (by have := HG.out; omega)
    · rw [hw9, HF.out, ← HSET.out]
      exact own_setU HOW.out HLL.out _ _
  case done =>
    rintro D ys W hD rfl ⟨hX, hO, hB⟩ hK
    have hbits : bitsF M (fun n => decide (n ∈ ixs (ixF l true l.length))) = spBits l := by
      unfold spBits
      rw [HM.out, HP.out]
      refine bitsF_congr _ fun n _ => ?_
      rw [ixs_all, Bool.eq_iff_iff]
      simp only [decide_eq_true_eq, beq_iff_eq, idx_mem]
      exact ⟨fun h => h.2, fun h => ⟨(List.getElem?_eq_some_iff.1 h).1, h⟩⟩
    rw [hbits] at hO
    have HOW := Lib.hid hO
    have HBW := Lib.hid hB
    have HD := Lib.hid hD
    clear hX hO hB hD hbits
    go_wp2_with fail
    refine ⟨by simp, .inl ⟨_, _, rfl, run_takeDeferred hK, ?_⟩⟩
    have hg5 := grownBy_putObj' W D (.deferred none)
    exact ⟨_, results_tmp2 rfl _ _ _, _, rfl, ownsRow_turn HOW.out hg5 (fun r e => by cases e; exact ⟨_, hK, rfl⟩), below_turn HBW.out HB5.out.size hg5 (fun r e => by cases e; exact HD.out)⟩
  case stop =>
    rintro D c pre W _ _ h _
    exact h.elim
theorem spBytes_any (w : World) (p : Int) (v : Value) (l : List Bool) (hv : Boos w v l) (hlen : l.length ≤ 70368744177664) :
    Calls Try.prog 23 #[.agg #[.int .i64 p, v]] w (ByOut w (spBytes p l)) := by
  unfold spBytes
  by_cases hok : spOk p l
  · rw [if_pos hok]
    exact spBytes_ok w p v l hv hok
  · rw [if_neg hok]
    exact spBytes_not w p v l hv hlen hok
end Go.Proofs.Ytncjobeahpjnpaa
