/-
  The statement OctetBack: what was laid down is read as it, whatever stands behind; unlike numbers have unlike bytes. Conditions: none.
-/
import Derived.Test.YtledbkohbjefhaaLives
import Derived.Test.YtledbkohbjefhaaRef1
import Derived.Test.YtledbkohbjefhaaNum2
import Derived.Test.YtledbkohbjefhaaOpen
import Derived.Test.YtledbkohbjefhaaOrd
namespace Go.Proofs.Ytledbkohbjefhaa.octetBack
open Go.ChangeShapes Go.WideShapes Go.ChangeAt Go.RowKit
set_option linter.unusedVariables false

/-- What a call of a reader that answers a number leaves, the number in the walk's own words. -/
def ToldI (w : World) (g : Nat) (k : IntKind) (n : Int) (l : List UInt8) (e : Nat) (x : Ending) (w' : World) : Prop :=
  x = .returned (.int k n) ∧ Rdr w' g l e ∧ w.grownBy w' (some g)
theorem told_int {f : Nat} {args : Array Value} {w : World} {g : Nat} {k : IntKind} {a : Nat} {n : Int} {l : List UInt8} {e : Nat} (hn : (a : Int) = n) (h : Calls Try.prog f args w (Told w g k a l e)) : Calls Try.prog f args w (ToldI w g k n l e) := by
  subst hn
  exact h

theorem Own_open {w : World} {B : Nat} {e : TypeId} {v : Value} {l : List UInt8} (h : Own w B e v l) (hl : 0 < l.length) :
    ∃ g n c, v = .slice (some ⟨g, 0, none⟩) n c ∧ Hid (n = l.length) ∧ B ≤ g ∧ g < w.heap.size ∧ n ≤ c ∧ c ≤ 9223372036854775807 ∧ (∀ j (hj : j < l.length), w.cell? ⟨g, j, none⟩ = some (.int .u8 (l[j].toNat : Int))) ∧ (∀ j, w.frozen? ⟨g, j, none⟩ = false) ∧
      ∀ j (y : UInt8), Own (w.setCell ⟨g, j, none⟩ (.int .u8 (y.toNat : Int))) B e v (l.set j y) := by
  have h0 := h
  rcases h.2 with ⟨rfl, h1⟩ | ⟨g, cap, cur, rfl, hb, hg, h1, h2, h3, h4⟩
  · omega
  · have hlt : g < w.heap.size := by
      rcases Nat.lt_or_ge g w.heap.size with hlt | hge
      · exact hlt
      · rw [Array.getElem?_eq_none hge] at hg; cases hg
    unfold maxLen at h2
    refine ⟨g, _, cap, rfl, rfl, hb, hlt, h1, by omega, fun j hj => ?_, fun j => World.ownsRow.frozenAt h0 j, fun j y => ?_⟩
    · rw [World.ownsRow.cellAt h0 j (by omega)]
      simp [byc, hj]
    · have := (World.ownsRow.stored h0 j (.int .u8 (y.toNat : Int))).1
      unfold Own
      rw [List.length_set, show byc (l.set j y) = (byc l).set j (.int .u8 (y.toNat : Int)) from by simp [byc, List.map_set]]
      exact this
theorem Own_reader {w w' : World} {B : Nat} {e : TypeId} {v : Value} {l : List UInt8} {g : Nat} (h : Own w B e v l) (hg : w.grownBy w' (some g)) (hlt : g < B) : Own w' B e v l := by
  refine World.ownsRow.kept h hg ?_
  cases hv : v.ownBlock with
  | none => exact .inl rfl
  | some k =>
    right
    intro hk
    have := (World.ownsRow.lt h k hv).1
    injection hk with hk
    omega
theorem grown_new {a b : World} {r : Option Nat} {k i : Nat} (h : a.grownBy b r) (hk : a.heap.size ≤ k) (u : Value) : a.grownBy (b.setCell ⟨k, i, none⟩ u) r :=
  ⟨h.os, h.tape, h.output, by simpa [World.setCell] using h.size, fun j hj hr => (Below.heap_setCell _ _ _ _ (by simp only; omega)).trans (h.block j hj hr)⟩
theorem grown_more {a b c : World} {r : Option Nat} {j : Nat} (h : a.grownBy b r) (k : b.grownBy c (some j)) (hj : a.heap.size ≤ j) : a.grownBy c r :=
  ⟨k.os.trans h.os, k.tape.trans h.tape, k.output.trans h.output, Nat.le_trans h.size k.size, fun i hi hr => (k.block i (Nat.lt_of_lt_of_le hi h.size) (by simp; omega)).trans (h.block i hi hr)⟩
/-- Block g is a reader with the error e. -/
def RErr (w : World) (g e : Nat) : Prop := ∃ v, w.heap[g]? = some (.cells #[.bool true, v, .int .i64 (e : Int)] 52 (0, 0))
theorem Rdr_err {w : World} {g e : Nat} {l : List UInt8} (h : Rdr w g l e) : RErr w g e := by
  obtain ⟨A, c, h1, _⟩ := h
  exact ⟨_, h1⟩
theorem RErr.block {w w' : World} {g e : Nat} (h : RErr w g e) (hb : w'.heap[g]? = w.heap[g]?) : RErr w' g e := by
  obtain ⟨v, h1⟩ := h
  exact ⟨v, hb.trans h1⟩
theorem err_of (w : World) (g e : Nat) (hr : RErr w g e) :
    Calls Try.prog 11 #[.pointer (some ⟨g, 0, none⟩)] w fun x w' => x = .returned (.int .i64 (e : Int)) ∧ w = w' := by
  obtain ⟨v, h1⟩ := hr
  have c0 : w.cell? ⟨g, 0, none⟩ = some (.bool true) := by rw [cell_of_row _ _ _ _ _ _ h1]; rfl
  have c2 : w.cell? ⟨g, 2, none⟩ = some (.int .i64 (e : Int)) := by rw [cell_of_row _ _ _ _ _ _ h1]; rfl
  clear h1
  go_enter Try.func11, Try.ntmps11
  go_wp2
  go_ret
  exact ⟨rfl, rfl⟩
theorem or128_byte (x : Nat) (hx : x < 256) : ∃ y : UInt8, bits .or .u8 (x : Int) 128 = (y.toNat : Int) ∧ 128 ≤ y.toNat := by
  have h := or128 ⟨x, hx⟩
  refine ⟨UInt8.ofNat (x % 128 + 128), ?_, by rw [u8n]; omega⟩
  simp only at h
  rw [h, u8n]
  omega

set_option maxRecDepth 100000 in
set_option maxHeartbeats 16000000 in
theorem walk_small (w : World) (n m : Nat) (x : Value) (lx : List UInt8) (bh : Value) (lb : List UInt8) (hn : n < 18446744073709551616) (hm : m < 18446744073709551616) (hx : Byt w x lx) (hb : Byt w bh lb) (hl : lx.length ≤ 3000) (hl2 : lb.length ≤ 3000) :
    Calls Try.prog 5 #[.int .u64 n, .int .u64 m, x, bh] w fun e w' => e = .returned (.bool true) ∧ Below w.heap.size w w' := by
  obtain ⟨i0, hi0, hz0, hz1, hz2⟩ := info_parts uinfo
  have HX := Lib.hid hx
  have HB := Lib.hid hb
  obtain ⟨A0, n0, c0, rfl, N0, _, _⟩ := hx.form
  obtain ⟨A1, n1, c1, rfl, N1, _, _⟩ := hb.form
  have h0 : ¬ (3000 : Int) < (n0 : Int) := by have := N0.out; omega
  have h1 : ¬ (3000 : Int) < (n1 : Int) := by have := N1.out; omega
  have HN := Lib.hid hn
  have HM := Lib.hid hm
  clear hx hb hn hm
  go_enter Try.func5, Try.ntmps5
  go_wp2_with fail
  refine (lives_any _).mono ?_
  rintro e w1 ⟨rfl, hb1⟩
  have hw1 := hb1
  have HX1 := Lib.hid (HX.out.below hb1)
  have HB1 := Lib.hid (HB.out.below hb1)
  clear hb1
  go_wp2_with fail
  refine (number_any _ _ [] n (Byt.nil _) HN.out (by simp)).mono ?_
  rintro e w2 ⟨v2, rfl, ho2, hb2⟩
  rw [List.nil_append] at ho2
  have hw2 := hw1.trans (hb2.mono hw1.size)
  have HX2 := Lib.hid (HX1.out.below hb2)
  have HB2 := Lib.hid (HB1.out.below hb2)
  have HV2 := Lib.hid ho2.byt
  clear ho2 hb2
  go_wp2_with fail
  refine wp_loop_rounds 4 ?_
  rw [rounds_succ]
  go_wp2_with fail
  refine (word_is _ _ (numB n) m 2 (HV2.out.alloc _) HM.out (by omega) (by have := numB_len n; omega)).mono ?_
  rintro e w3 ⟨v3, rfl, ho3, hb3⟩
  have hb23 : Below w2.heap.size w2 w3 := (below_new w2 _).trans (hb3.mono (by simp))
  have hw3 := hw2.trans (hb23.mono hw2.size)
  have HX3 := Lib.hid (HX2.out.below hb23)
  have HB3 := Lib.hid (HB2.out.below hb23)
  have HV3 := Lib.hid ho3.byt
  have hblk3 : w3.heap[w2.heap.size]? = some (.cells #[.int .i64 2, .int .i64 4, .int .i64 8] 3) := (hb3.block w2.heap.size (by simp)).trans (heap_alloc_new w2 _)
  have hlt3 : w2.heap.size < w3.heap.size := by have := hb3.size; simp at this; omega
  have hc3 : w3.cell? ⟨w2.heap.size, 1, none⟩ = some (.int .i64 4) := by rw [cell_of_row _ _ _ _ _ _ hblk3]; rfl
  have HK3 := Lib.hid hblk3
  clear ho3 hb3 hb23 hblk3
  go_wp2_with fail
  rw [rounds_succ]
  go_wp2_with fail
  refine (word_is _ _ _ m 4 HV3.out HM.out (by omega) (by have := numB_len n; rw [List.length_append, wordB_len]; omega)).mono ?_
  rintro e w4 ⟨v4, rfl, ho4, hb4⟩
  have hw4 := hw3.trans (hb4.mono hw3.size)
  have HX4 := Lib.hid (HX3.out.below hb4)
  have HB4 := Lib.hid (HB3.out.below hb4)
  have HV4 := Lib.hid ho4.byt
  have hblk4 : w4.heap[w2.heap.size]? = some (.cells #[.int .i64 2, .int .i64 4, .int .i64 8] 3) := (hb4.block w2.heap.size hlt3).trans HK3.out
  have hc4 : w4.cell? ⟨w2.heap.size, 2, none⟩ = some (.int .i64 8) := by rw [cell_of_row _ _ _ _ _ _ hblk4]; rfl
  clear ho4 hb4 hblk4 hc3
  go_wp2_with fail
  rw [rounds_succ]
  go_wp2_with fail
  refine (word_is _ _ _ m 8 HV4.out HM.out (by omega) (by have := numB_len n; simp only [List.length_append, wordB_len]; omega)).mono ?_
  rintro e w5 ⟨v5, rfl, ho5, hb5⟩
  have hw5 := hw4.trans (hb5.mono hw4.size)
  have HX5 := Lib.hid (HX4.out.below hb5)
  have HB5 := Lib.hid (HB4.out.below hb5)
  have HV5 := Lib.hid ho5.byt
  clear ho5 hb5 hc4
  go_wp2_with fail
  rw [rounds_succ]
  go_wp2_with fail
  have hpl : (numB n ++ wordB 2 m ++ wordB 4 m ++ wordB 8 m).length ≤ 24 := by have := numB_len n; simp only [List.length_append, wordB_len]; omega
  generalize hpre : numB n ++ wordB 2 m ++ wordB 4 m ++ wordB 8 m = pre at *
  have HPRE := Lib.hid hpre
  clear hpre
  refine (block_any _ _ _ pre lx HV5.out HX5.out (by omega)).mono ?_
  rintro e w6 ⟨v6, rfl, ho6, hb6⟩
  have HB6 := Lib.hid (HB5.out.below hb6)
  have HX6 := Lib.hid (HX5.out.below hb6)
  have hnl := numB_len lx.length
  go_wp2_with (at_builtin; refine wpList_app _ rfl (.tmp 43) (.tmp 44) _ rfl w5.heap.size 5 i0 _ Try.underlying24 hi0 hz0 hz1 hz2 rfl _ (pre ++ numB lx.length ++ lx) rfl ho6 _ lb rfl HB6.out (by simp only [List.length_append]; omega) hb6.size ?_; intro v7 w7 hown7 hg7 hat7; have hb7 := below_own hb6 hb6.size ho6 hg7)
  have hw7 := hw5.trans (hb7.mono hw5.size)
  have HX7 := Lib.hid (HX5.out.below hb7)
  have HB7 := Lib.hid (HB5.out.below hb7)
  have hby7 : Byt w7 v7 (pre ++ (numB lx.length ++ (lx ++ lb))) := by
    have := hown7.byt
    simpa only [List.append_assoc] using this
  rw [← HPRE.out] at hby7
  simp only [List.append_assoc] at hby7
  have HV7 := Lib.hid hby7
  clear ho6 hb6 hown7 hg7 hat7 hb7 hby7
  refine (new_any _ _ _ HV7.out (by have := numB_len n; simp only [List.length_append, wordB_len]; omega)).mono ?_
  rintro e w8 ⟨g, rfl, hg8, hr8, hb8⟩
  have hw8 := hw7.trans (hb8.mono hw7.size)
  have HX8 := Lib.hid (HX7.out.below hb8)
  have HR8 := Lib.hid hr8
  have hgw : w.heap.size ≤ g := by have := hw7.size; omega
  clear hr8 hb8
  go_wp2_with fail
  have C1 : Hid (∀ u, Rdr u g (numB n ++ (wordB 2 m ++ (wordB 4 m ++ (wordB 8 m ++ (numB lx.length ++ (lx ++ lb)))))) 0 → Calls Try.prog 13 #[.pointer (some ⟨g, 0, none⟩)] u (Told u g .u64 n (wordB 2 m ++ (wordB 4 m ++ (wordB 8 m ++ (numB lx.length ++ (lx ++ lb))))) 0)) := fun u hr => by
    have h := number_is u g 0 _ hr
    rw [read_num n _ HN.out] at h
    exact h
  have C2 : Hid (∀ u, Rdr u g (wordB 2 m ++ (wordB 4 m ++ (wordB 8 m ++ (numB lx.length ++ (lx ++ lb))))) 0 → Calls Try.prog 15 #[.pointer (some ⟨g, 0, none⟩), .int .i64 2] u (ToldI u g .u64 ((m : Int) % 65536) (wordB 4 m ++ (wordB 8 m ++ (numB lx.length ++ (lx ++ lb)))) 0)) := fun u hr => by
    have h := rword_is u g 0 _ 2 hr (by simp only [List.length_append, wordB_len]; omega)
    rw [show (2 : Int) = ((2 : Nat) : Int) from rfl, read_word 2 m _ (by omega)] at h
    exact told_int (by rw [show (256 : Nat) ^ 2 = 65536 from rfl]; omega) h
  have C3 : Hid (∀ u, Rdr u g (wordB 4 m ++ (wordB 8 m ++ (numB lx.length ++ (lx ++ lb)))) 0 → Calls Try.prog 15 #[.pointer (some ⟨g, 0, none⟩), .int .i64 4] u (ToldI u g .u64 ((m : Int) % 4294967296) (wordB 8 m ++ (numB lx.length ++ (lx ++ lb))) 0)) := fun u hr => by
    have h := rword_is u g 0 _ 4 hr (by simp only [List.length_append, wordB_len]; omega)
    rw [show (4 : Int) = ((4 : Nat) : Int) from rfl, read_word 4 m _ (by omega)] at h
    exact told_int (by rw [show (256 : Nat) ^ 4 = 4294967296 from rfl]; omega) h
  have C4 : Hid (∀ u, Rdr u g (wordB 8 m ++ (numB lx.length ++ (lx ++ lb))) 0 → Calls Try.prog 15 #[.pointer (some ⟨g, 0, none⟩), .int .i64 8] u (ToldI u g .u64 (m : Int) (numB lx.length ++ (lx ++ lb)) 0)) := fun u hr => by
    have h := rword_is u g 0 _ 8 hr (by simp only [List.length_append, wordB_len]; omega)
    rw [show (8 : Int) = ((8 : Nat) : Int) from rfl, read_word 8 m _ (by omega)] at h
    exact told_int (by have := HM.out; rw [show (256 : Nat) ^ 8 = 18446744073709551616 from rfl]; omega) h
  have C5 : Hid (∀ u, Rdr u g (numB lx.length ++ (lx ++ lb)) 0 → Calls Try.prog 9 #[.pointer (some ⟨g, 0, none⟩)] u (Took u g lx lb 0)) := fun u hr => by
    have h := rblock_is u g 0 _ hr (by simp only [List.length_append]; omega)
    rw [read_block lx lb (by omega)] at h
    exact h
  have W8 := Lib.hid (show (m : Int).tmod 65536 = (m : Int) % 65536 from Int.tmod_eq_emod_of_nonneg (by omega))
  have W15 := Lib.hid (show (m : Int).tmod 4294967296 = (m : Int) % 4294967296 from Int.tmod_eq_emod_of_nonneg (by omega))
  have W37 := Lib.hid (show ((lb.length : Int) != (n1 : Int)) = false by rw [show n1 = lb.length from N1.out]; simp)
  have HX9 := Lib.hid (show Byt w8.drew _ lx from HX8.out.drew)
  have HR9 := Lib.hid (show Rdr w8.drew g _ 0 from HR8.out.below ((Below.refl _ _).drew))
  have hw9 : Below w.heap.size w w8.drew := hw8.drew
  refine wp_region_R (R := fun x y => World.grownBy x y (some g)) (by kernel_rfl) (fun a => grown_refl a _) (fun h k => grown_trans h k) (by kernel_rfl) (fun d v c a w h => by cases d <;> exact h)
    [(0, false), (2, false), (1, true), (3, false), (4, false), (5, false), (7, false), (8, false), (6, true), (9, false), (10, false), (11, false), (12, false), (14, false), (15, false), (13, true), (16, false), (17, false), (18, false), (19, false), (21, false), (20, true), (22, false), (23, false), (24, false), (25, false), (28, false), (29, false), (26, true), (27, false), (30, false), (31, false), (32, false), (33, false), (35, false), (36, false), (34, true), (37, false), (38, false), (39, false), (40, false), (41, true), (42, false), (43, false)] rfl (by kernel_rfl) (by kernel_rfl) ?_
  simp only [sel, List.getElem?_toArray, List.getElem?_cons_succ, List.getElem?_cons_zero]
  iterate 2 (refine sch_take ?_ rfl ?_ ?_; rotate_left; (focus (intro u hu; go_simp <;> rfl)); simp only [Act.put, List.setIfInBounds_toArray, List.set_cons_zero, List.set_cons_succ])
  refine sch_call rfl ?_
  intro K hK
  go_simp
  refine (C1.out _ HR9.out).mono ?_
  rintro e wr1 ⟨rfl, hr1, hg1⟩
  go_wp2_with fail
  refine hK _ _ hg1 ?_
  clear hK K
  have HX11 := Lib.hid (HX9.out.reader HR9.out hg1)
  have HR11 := Lib.hid hr1
  have hw11 : Below w.heap.size w wr1 := hw9.grown hg1 hw9.size (by rintro k ⟨rfl⟩; exact hgw)
  clear hr1 hg1
  iterate 4 (refine sch_take ?_ rfl ?_ ?_; rotate_left; (focus (intro u hu; go_simp <;> rfl)); simp only [Act.put, List.setIfInBounds_toArray, List.set_cons_zero, List.set_cons_succ])
  (refine sch_take ?_ rfl ?_ ?_; rotate_left; (focus (intro u hu; have t := W8.out; go_simp <;> rfl)); simp only [Act.put, List.setIfInBounds_toArray, List.set_cons_zero, List.set_cons_succ])
  refine sch_call rfl ?_
  intro K hK
  go_simp
  refine (C2.out _ HR11.out).mono ?_
  rintro e wr6 ⟨rfl, hr6, hg6⟩
  go_wp2_with fail
  refine hK _ _ hg6 ?_
  clear hK K
  have HX16 := Lib.hid (HX11.out.reader HR11.out hg6)
  have HR16 := Lib.hid hr6
  have hw16 : Below w.heap.size w wr6 := hw11.grown hg6 hw11.size (by rintro k ⟨rfl⟩; exact hgw)
  clear hr6 hg6
  iterate 5 (refine sch_take ?_ rfl ?_ ?_; rotate_left; (focus (intro u hu; go_simp <;> rfl)); simp only [Act.put, List.setIfInBounds_toArray, List.set_cons_zero, List.set_cons_succ])
  (refine sch_take ?_ rfl ?_ ?_; rotate_left; (focus (intro u hu; have t := W15.out; go_simp <;> rfl)); simp only [Act.put, List.setIfInBounds_toArray, List.set_cons_zero, List.set_cons_succ])
  refine sch_call rfl ?_
  intro K hK
  go_simp
  refine (C3.out _ HR16.out).mono ?_
  rintro e wr13 ⟨rfl, hr13, hg13⟩
  go_wp2_with fail
  refine hK _ _ hg13 ?_
  clear hK K
  have HX113 := Lib.hid (HX16.out.reader HR16.out hg13)
  have HR113 := Lib.hid hr13
  have hw113 : Below w.heap.size w wr13 := hw16.grown hg13 hw16.size (by rintro k ⟨rfl⟩; exact hgw)
  clear hr13 hg13
  iterate 5 (refine sch_take ?_ rfl ?_ ?_; rotate_left; (focus (intro u hu; go_simp <;> rfl)); simp only [Act.put, List.setIfInBounds_toArray, List.set_cons_zero, List.set_cons_succ])
  refine sch_call rfl ?_
  intro K hK
  go_simp
  refine (C4.out _ HR113.out).mono ?_
  rintro e wr20 ⟨rfl, hr20, hg20⟩
  go_wp2_with fail
  refine hK _ _ hg20 ?_
  clear hK K
  have HX120 := Lib.hid (HX113.out.reader HR113.out hg20)
  have HR120 := Lib.hid hr20
  have hw120 : Below w.heap.size w wr20 := hw113.grown hg20 hw113.size (by rintro k ⟨rfl⟩; exact hgw)
  clear hr20 hg20
  iterate 5 (refine sch_take ?_ rfl ?_ ?_; rotate_left; (focus (intro u hu; go_simp <;> rfl)); simp only [Act.put, List.setIfInBounds_toArray, List.set_cons_zero, List.set_cons_succ])
  (refine sch_take ?_ rfl ?_ ?_; rotate_left; (focus (intro u hu; have t := text_of (HX120.out.reader HR120.out hu); go_simp <;> rfl)); simp only [Act.put, List.setIfInBounds_toArray, List.set_cons_zero, List.set_cons_succ])
  refine sch_call rfl ?_
  intro K hK
  go_simp
  refine (C5.out _ HR120.out).mono ?_
  rintro e wr26 ⟨v26, rfl, hv26, hr26, hg26⟩
  go_wp2_with fail
  refine hK _ _ hg26 ?_
  clear hK K
  have HX126 := Lib.hid (HX120.out.reader HR120.out hg26)
  have HR126 := Lib.hid hr26
  have HV26 := Lib.hid hv26
  have hw126 : Below w.heap.size w wr26 := hw120.grown hg26 hw120.size (by rintro k ⟨rfl⟩; exact hgw)
  clear hr26 hg26
  (refine sch_take ?_ rfl ?_ ?_; rotate_left; (focus (intro u hu; have t := text_of (HV26.out.reader HR126.out hu); go_simp <;> rfl)); simp only [Act.put, List.setIfInBounds_toArray, List.set_cons_zero, List.set_cons_succ])
  iterate 6 (refine sch_take ?_ rfl ?_ ?_; rotate_left; (focus (intro u hu; go_simp <;> rfl)); simp only [Act.put, List.setIfInBounds_toArray, List.set_cons_zero, List.set_cons_succ])
  refine sch_call rfl ?_
  intro K hK
  go_simp
  refine (left_is _ g 0 lb HR126.out).mono ?_
  rintro e wz ⟨rfl, rfl⟩
  go_wp2_with fail
  refine hK _ _ (grown_refl _ _) ?_
  clear hK K
  (refine sch_take ?_ rfl ?_ ?_; rotate_left; (focus (intro u hu; have t := W37.out; go_simp <;> rfl)); simp only [Act.put, List.setIfInBounds_toArray, List.set_cons_zero, List.set_cons_succ])
  iterate 3 (refine sch_take ?_ rfl ?_ ?_; rotate_left; (focus (intro u hu; go_simp <;> rfl)); simp only [Act.put, List.setIfInBounds_toArray, List.set_cons_zero, List.set_cons_succ])
  refine sch_call rfl ?_
  intro K hK
  go_simp
  refine (err_is _ g 0 lb HR126.out).mono ?_
  rintro e wz ⟨rfl, rfl⟩
  go_wp2_with fail
  refine hK _ _ (grown_refl _ _) ?_
  clear hK K
  iterate 2 (refine sch_take ?_ rfl ?_ ?_; rotate_left; (focus (intro u hu; go_simp <;> rfl)); simp only [Act.put, List.setIfInBounds_toArray, List.set_cons_zero, List.set_cons_succ])
  refine sch_nil ?_
  have L1 := Lib.hid N1.out
  go_wp2_with fail
  refine (number_any _ _ [] n (Byt.nil _) HN.out (by simp)).mono ?_
  rintro e wa ⟨va, rfl, hoa, hba⟩
  rw [List.nil_append] at hoa
  have hwa := hw126.trans (hba.mono hw126.size)
  have HOA := Lib.hid hoa.byt
  clear hoa hba
  go_wp2_with fail
  refine (number_any _ _ [] m (Byt.nil _) HM.out (by simp)).mono ?_
  rintro e wb ⟨vb, rfl, hob, hbb⟩
  rw [List.nil_append] at hob
  have hwb := hwa.trans (hbb.mono hwa.size)
  have HOB := Lib.hid (HOA.out.below hbb)
  have HTB := Lib.hid hob.byt
  clear hob hbb
  obtain ⟨Ao, no, co, rfl, No, ko, mo⟩ := HOB.out.form
  have hno := No.out
  have hno2 := numB_len n
  rw [← hno] at hno2
  obtain ⟨Ac, nc, cc, rc, bc, Nc, _, _⟩ := HOB.out.uptorun 24 elemByte sizeByte (no - 1) (by omega) .i64
  rw [show ((no - 1 : Nat) : Int) = max 0 ((no : Int) - 1) from by omega] at rc
  rw [hno] at bc
  have HC := Lib.hid bc
  have hcl : ((numB n).take ((numB n).length - 1)).length ≤ 70368744177664 := by rw [List.length_take]; omega
  clear bc hno
  go_wp2_with fail
  refine (new_any _ _ _ HC.out hcl).mono ?_
  rintro e wc ⟨gc, rfl, hgc, hrc, hbc⟩
  have hwc := hwb.trans (hbc.mono hwb.size)
  have HOC := Lib.hid (HOB.out.below hbc)
  have HTC := Lib.hid (HTB.out.below hbc)
  have HRC := Lib.hid hrc
  have hgcw : w.heap.size ≤ gc := by have := hwb.size; omega
  have HE := Lib.hid (Own.empty wc)
  clear hrc hbc
  go_wp2_with (at_builtin; refine wpList_app _ rfl (.tmp 103) (.tmp 104) _ rfl wc.heap.size 5 i0 _ Try.underlying24 hi0 hz0 hz1 hz2 rfl _ [] rfl HE.out _ (numB n) rfl (HOC.out.alloc _) (by have := numB_len n; simp; omega) (by simp) ?_; intro vl wl hol hgl hal; have hbl := below_own (below_new wc _) (by simp) HE.out hgl)
  have hwl := hwc.trans (hbl.mono hwc.size)
  rw [List.nil_append] at hol
  have HRL := Lib.hid (HRC.out.below hbl)
  have hgcl : gc < wc.heap.size := HRC.out.lt
  have hG1 : wc.grownBy wl (some gc) := grown_below hbl
  have C6 : Hid (∀ u, Rdr u gc ((numB n).take ((numB n).length - 1)) 0 → Calls Try.prog 13 #[.pointer (some ⟨gc, 0, none⟩)] u (Told u gc .u64 0 ((numB n).take ((numB n).length - 1)) 5)) := fun u hr => by
    have h := number_is u gc 0 _ hr
    rw [read_cut n HN.out] at h
    exact h
  clear hgl hal hbl
  go_wp2_with fail
  refine (C6.out _ HRL.out).mono ?_
  rintro e wd ⟨rfl, hrd, hgd⟩
  have hwd : Below w.heap.size w wd := hwl.grown hgd hwl.size (by rintro k ⟨rfl⟩; exact hgcw)
  have hG2 := grown_trans hG1 hgd
  have hod := Own_reader hol hgd hgcl
  have HRE := Lib.hid (Rdr_err hrd)
  have hnb := numB_len n
  obtain ⟨gl, nl, cl, rfl, Nl, hgl0, hgl1, hnl0, hcl0, hcell, hfr, hset⟩ := Own_open hod (by omega)
  have hnl := Nl.out
  have hlast : (numB n).length - 1 < (numB n).length := by omega
  have hcl1 := hcell ((numB n).length - 1) hlast
  have hx256 : (numB n)[(numB n).length - 1].toNat < 256 := UInt8.toNat_lt _
  generalize hxl : (numB n)[(numB n).length - 1].toNat = xl at *
  obtain ⟨y, hy1, hy2⟩ := or128_byte xl hx256
  have hfr1 := hfr ((numB n).length - 1)
  have hset1 := hset ((numB n).length - 1) y
  rw [← hnl] at hcl1 hfr1 hset1
  have hnl1 : 1 ≤ nl := by omega
  have hnl2 : nl ≤ 10 := by omega
  have HY1 := Lib.hid hy1
  have HY2 := Lib.hid hy2
  have HSET := Lib.hid hset1
  have hlr : (1 : Int) ≤ (nl : Int) := by omega
  have hlr2 : (nl : Int) ≤ 10 := by omega
  have hG3 := Lib.hid (grown_new (i := nl - 1) hG2 hgl0 (.int .u8 (y.toNat : Int)))
  have hne : gc ≠ gl := by omega
  have HRE2 := Lib.hid (HRE.out.block (Below.heap_setCell wd ⟨gl, nl - 1, none⟩ (.int .u8 (y.toNat : Int)) gc (by simpa using hne)))
  have hszd : wc.heap.size ≤ wd.heap.size := hG2.size
  have hll : ((numB n).set (nl - 1) y).length ≤ 10 := by rw [List.length_set]; omega
  clear hrd hgd hod hol hcell hfr hset hxl hy2 hset1 hx256 hlast hnb hnl
  go_wp2_with (at_builtin; refine wpList_app _ rfl (.tmp 120) (.tmp 121) _ rfl wc.heap.size 5 i0 _ Try.underlying24 hi0 hz0 hz1 hz2 rfl _ ((numB n).set (nl - 1) y) rfl (World.ownsRow.alloc HSET.out _) (.slice (some ⟨wd.heap.size, 0, none⟩) 1 1) [0] rfl ?hbx ?hle ?hba ?_)
  case hbx =>
    have := Byt.lit1 (wd.setCell ⟨gl, nl - 1, none⟩ (.int .u8 (y.toNat : Int))) 5 0 0 (0, 0) rfl
    simpa [World.setCell] using this
  case hle => have := numB_len n; simp; omega
  case hba => simp [World.setCell]; omega
  intro ve we hoe hge hae
  have hszd2 : (wd.setCell ⟨gl, nl - 1, none⟩ (.int .u8 (y.toNat : Int))).heap.size = wd.heap.size := by simp [World.setCell]
  have hGe : wc.grownBy we (some gc) := grown_more (grown_trans hG3.out (grown_below (below_new _ _))) hge hgl0
  have hwe : Below w.heap.size w we := by
    have h1 : Below w.heap.size w (wd.setCell ⟨gl, nl - 1, none⟩ (.int .u8 (y.toNat : Int))) := hwd.setCell (by have := hwc.size; simp only; omega) _
    exact (h1.alloc h1.size _).grown hge (by have := h1.size; simp; omega) (by intro k hk; have e1 : gl = k := (by simpa [Value.ownBlock] using hk); have := hwc.size; omega)
  have hRe : RErr we gc 5 := by
    refine (HRE2.out.block (Below.heap_alloc _ _ _ (by rw [hszd2]; omega))).block (hge.block gc (by simp [World.setCell]; omega) ?_)
    simp [Value.ownBlock]
    omega
  have HRe := Lib.hid hRe
  have hyl := hoe.byt
  have HYL := Lib.hid hyl
  have HOE := Lib.hid (HOC.out.reader HRC.out hGe)
  have HTE := Lib.hid (HTC.out.reader HRC.out hGe)
  have hgce : gc < we.heap.size := by have := hGe.size; omega
  clear hoe hge hae hRe hyl hGe hcl1 hfr1 hy1 hszd2
  go_wp2_with fail
  refine (new_any _ _ _ HYL.out (by have := numB_len n; simp; omega)).mono ?_
  rintro e wf ⟨g3, rfl, hg3, hr3, hb3⟩
  have hwf := hwe.trans (hb3.mono hwe.size)
  have HRf := Lib.hid (HRe.out.block (hb3.block gc hgce))
  have HOF := Lib.hid (HOE.out.below hb3)
  have HTF := Lib.hid (HTE.out.below hb3)
  have HR3 := Lib.hid hr3
  have hg3w : w.heap.size ≤ g3 := by have := hwe.size; omega
  have hgcf : gc < wf.heap.size := by have := hb3.size; omega
  have hne3 : gc ≠ g3 := by omega
  clear hr3 hb3
  have C7 : Hid (∀ u, Rdr u g3 ((numB n).set (nl - 1) y ++ [0]) 0 → Calls Try.prog 13 #[.pointer (some ⟨g3, 0, none⟩)] u (Told u g3 .u64 0 ((numB n).set (nl - 1) y ++ [0]) 4)) := fun u hr => by
    have h := number_is u g3 0 _ hr
    rw [show nl = (numB n).length from Nl.out, read_long n y HY2.out HN.out] at h
    rw [show nl = (numB n).length from Nl.out]
    exact h
  go_wp2_with fail
  refine (C7.out _ HR3.out).mono ?_
  rintro e wg ⟨rfl, hrg, hgg⟩
  have hwg : Below w.heap.size w wg := hwf.grown hgg hwf.size (by rintro k ⟨rfl⟩; exact hg3w)
  have HRg := Lib.hid (HRf.out.block (hgg.block gc hgcf (by simp; omega)))
  have tO := text_of (HOF.out.reader HR3.out hgg)
  have tT := text_of (HTF.out.reader HR3.out hgg)
  have HR4 := Lib.hid hrg
  have SN := Lib.hid (fun w => size_any n w HN.out)
  have hsz : (((numB n).length : Int) == (no : Int)) = true := by rw [show no = (numB n).length from No.out]; simp
  clear hrg hgg
  by_cases hnm : n = m
  · subst hnm
    go_wp2_with fail
    refine (SN.out _).mono ?_
    rintro e wz ⟨rfl, rfl⟩
    go_wp2_with fail
    refine (err_of _ gc 5 HRg.out).mono ?_
    rintro e wz ⟨rfl, rfl⟩
    go_wp2_with fail
    refine (err_is _ g3 4 _ HR4.out).mono ?_
    rintro e wz ⟨rfl, rfl⟩
    go_wp2_with fail
    go_ret
    exact ⟨rfl, hwg⟩
  · have hnb : ¬ numB n = numB m := fun h => hnm (numB_inj n m HN.out HM.out h)
    have q1 : (numB n == numB m) = false := by simpa using hnb
    have q2 : ((n : Int) == (m : Int)) = false := by simp; omega
    clear hnb hnm
    go_wp2_with fail
    refine (SN.out _).mono ?_
    rintro e wz ⟨rfl, rfl⟩
    go_wp2_with fail
    refine (err_of _ gc 5 HRg.out).mono ?_
    rintro e wz ⟨rfl, rfl⟩
    go_wp2_with fail
    refine (err_is _ g3 4 _ HR4.out).mono ?_
    rintro e wz ⟨rfl, rfl⟩
    go_wp2_with fail
    go_ret
    exact ⟨rfl, hwg⟩

set_option maxHeartbeats 1000000 in
theorem walk_big (w : World) (n m : Nat) (x : Value) (lx : List UInt8) (bh : Value) (lb : List UInt8) (hx : Byt w x lx) (hb : Byt w bh lb) (hbig : 3000 < lx.length ∨ 3000 < lb.length) :
    Calls Try.prog 5 #[.int .u64 n, .int .u64 m, x, bh] w fun e w' => e = .returned (.bool true) ∧ Below w.heap.size w w' := by
  obtain ⟨A0, n0, c0, rfl, N0, _, _⟩ := hx.form
  obtain ⟨A1, n1, c1, rfl, N1, _, _⟩ := hb.form
  clear hb hx
  by_cases h : (3000 : Int) < (n0 : Int)
  · clear hbig
    go_enter Try.func5, Try.ntmps5
    go_wp2_with fail
    refine (lives_any _).mono ?_
    rintro e w1 ⟨rfl, hb1⟩
    go_wp2_with fail
    go_ret
    exact ⟨rfl, hb1⟩
  · have h1 : (3000 : Int) < (n1 : Int) := by have := N0.out; have := N1.out; omega
    clear hbig
    go_enter Try.func5, Try.ntmps5
    go_wp2_with fail
    refine (lives_any _).mono ?_
    rintro e w1 ⟨rfl, hb1⟩
    go_wp2_with fail
    go_ret
    exact ⟨rfl, hb1⟩

theorem walk (w : World) (n m : Nat) (x : Value) (lx : List UInt8) (bh : Value) (lb : List UInt8) (hn : n < 18446744073709551616) (hm : m < 18446744073709551616) (hx : Byt w x lx) (hb : Byt w bh lb) :
    Calls Try.prog 5 #[.int .u64 n, .int .u64 m, x, bh] w fun e w' => e = .returned (.bool true) ∧ Below w.heap.size w w' := by
  by_cases h : 3000 < lx.length ∨ 3000 < lb.length
  · exact walk_big w n m x lx bh lb hx hb h
  · exact walk_small w n m x lx bh lb hn hm hx hb (by omega) (by omega)

set_option maxRecDepth 100000 in
theorem lifted (os : Os) (started : os.Started) (H : Type) (enc : TypeId × Value → H) :
    ReturnsInHanded {} Try.checked os 5 .any (Rows.octetBackSpec.pre6 enc Try.prog Try.f5 Rows.octetBackRow.domain false) (Rows.octetBackSpec.post enc Try.prog Try.f5 false true false false) := by
  refine returnsInHanded_of_change (C := Try.checked) ownKnobs started (by kernel_rfl) Try.func5
    (ChangeSpec.witness6 (enc := enc) (C := Try.checked) false ⟨#[], #[.int .u64 0, .int .u64 0, .slice none 0 0, .slice none 0 0], []⟩ 8 (by kernel_rfl) (by kernel_rfl) (by kernel_rfl) (by kernel_rfl)) ?_
  intro W base args ds gs before hval0 hW hcnd _
  have hval : ∀ (j : Nat) t v, Try.f5.params[j]? = some t → args[j]? = some v → Value.okWide Try.prog W .any base t v := hval0
  have hW' := hW
  obtain ⟨p, q, hA0, hV, rfl, hfz, hnd⟩ := hW
  have hA : DataW.TrodAll enc Try.prog W 0 (fun _ => true) true Try.f5.params.toList args.toList ds p := hA0
  rw [Try.params5] at hA hval
  obtain ⟨v0, vs0, d0, ds0, p0, q0, hargs, rfl, rfl, h0, r0⟩ := trodAll_cons hA
  obtain ⟨v1, vs1, d1, ds1, p1, q1, rfl, rfl, rfl, h1, r1⟩ := trodAll_cons r0
  obtain ⟨v2, vs2, d2, ds2, p2, q2, rfl, rfl, rfl, h2, r2⟩ := trodAll_cons r1
  obtain ⟨v3, vs3, d3, ds3, p3, q3, rfl, rfl, rfl, h3, r3⟩ := trodAll_cons r2
  obtain ⟨rfl, rfl, rfl⟩ := trodAll_nil r3
  obtain rfl : args = #[v0, v1, v2, v3] := by cases args; simp_all
  obtain ⟨rfl, rfl⟩ := trodVars_none hV
  obtain ⟨a0, rfl, rfl, rfl, w0⟩ := open_int Try.underlying29 (hval 0 29 v0 rfl rfl) h0
  obtain ⟨n0, rfl, b0⟩ := open_u64 w0
  obtain ⟨a1, rfl, rfl, rfl, w1⟩ := open_int Try.underlying29 (hval 1 29 v1 rfl rfl) h1
  obtain ⟨n1, rfl, b1⟩ := open_u64 w1
  have k2 := h2
  have lt2 : ∀ x ∈ p2, x.block < W.heap.size := by obtain ⟨m, hm⟩ := k2; exact DataW.trod_lt m _ _ _ hm
  obtain ⟨l2, b2⟩ := open_bytes (hval 2 24 v2 rfl rfl) h2
  have k3 := h3
  have lt3 : ∀ x ∈ p3, x.block < W.heap.size := by obtain ⟨m, hm⟩ := k3; exact DataW.trod_lt m _ _ _ hm
  obtain ⟨l3, b3⟩ := open_bytes (hval 3 24 v3 rfl rfl) h3
  clear hA0 hval0
  refine (walk W n0 n1 v2 l2 v3 l3 b0 b1 b2 b3).mono fun e W' ⟨he, bel⟩ => ?_
  subst he
  exact ⟨_, rfl, _, _, _, [], _, [], hW', trodAll_mk1 (shut_bool Try.underlying4 _), (trodAll_cons_mk (shut_int Try.underlying29 w0) (trodAll_cons_mk (shut_int Try.underlying29 w1) (trodAll_cons_mk (Below.trod laidOuts (by kernel_rfl) (of_decide_eq_true (by kernel_rfl)) k2 bel lt2) (trodAll_cons_mk (Below.trod laidOuts (by kernel_rfl) (of_decide_eq_true (by kernel_rfl)) k3 bel lt3) trodAll_mk0)))), rfl, bel.frame _, fun h => by cases h⟩

theorem over : Rows.octetBackRow.holds Try.pinned (OpenSpec.ofChange Rows.octetBackSpec) :=
  OpenClaim.holds_of_wide 5 Try.f5 rfl rfl rfl rfl rfl rfl rfl ⟨rfl, rfl, rfl, rfl, rfl⟩ rfl rfl rfl rfl rfl (by kernel_rfl) Try.func5 (by kernel_rfl)
    (of_decide_eq_true (by kernel_rfl)) (by unfold Func.isWrapper; first | (rw [if_pos (by decide +kernel)]; kernel_rfl) | (rw [if_neg (by decide +kernel)]; exact ⟨rfl, rfl⟩))
    (fun os started H enc _ => lifted os started H enc)

theorem proved : Rows.OctetBackSaid := over
#print axioms proved
end Go.Proofs.Ytledbkohbjefhaa.octetBack
