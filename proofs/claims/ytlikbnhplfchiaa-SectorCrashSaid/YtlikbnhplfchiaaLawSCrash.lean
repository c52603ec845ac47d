/-
  The statement SectorCrash: behind a crash each sector is as it was at the last flush, or as it was written last, or, one alone, the beginning of that and the rest of the former. Conditions: none.
-/
import Derived.Test.YtlikbnhplfchiaaSecU
import Derived.Test.YtlikbnhplfchiaaOrd
import Derived.Deep.Cut
import Derived.RegionTactic
namespace Go.Proofs.Ytlikbnhplfchiaa.sectorCrash
open Go.ChangeShapes Go.WideShapes Go.ChangeAt Go.RowKit Go.Maps
set_option linter.unusedVariables false

/-- The statement's own crash, in its variable. -/
def CBox (w : World) (cb : Nat) (vk : Value) (torn bytes : Int) : Prop := w.heap[cb]? = some (.cells (crashV vk torn bytes) 43)
theorem CBox.cells {w : World} {cb : Nat} {vk : Value} {torn bytes : Int} (h : CBox w cb vk torn bytes) : w.cell? ⟨cb, 0, none⟩ = some vk ∧ w.cell? ⟨cb, 1, none⟩ = some (.int .i64 torn) ∧ w.cell? ⟨cb, 2, none⟩ = some (.int .i64 bytes) := by
  refine ⟨?_, ?_, ?_⟩ <;> (rw [cell_of_row _ _ _ _ _ _ h]; rfl)

set_option maxRecDepth 100000 in
set_option maxHeartbeats 4000000 in
theorem walk_great (w : World) (x : Int) (v : Value) (len : Nat) (f : Nat → ActD) (vk : Value) (keep : List Bool) (torn bytes : Int) (hv : Acts w v len f) (hk : Rowz w vk (keep.map Value.bool)) (h : 40 < x ∨ ¬ smallA len f ∨ 100 < keep.length) :
    Calls Try.prog 6 #[.int .i64 x, v, .agg (crashV vk torn bytes)] w fun e w' => e = .returned (.bool true) ∧ Below w.heap.size w w' := by
  obtain ⟨A, c, rfl, hnc, hcm⟩ := hv.form
  obtain ⟨A2, m2, c2, rfl, N2, hnc2, hcm2⟩ := hk.form
  have HV := Lib.hid hv
  have HK := Lib.hid hk
  have HB0 := Lib.hid (below_new w (.cells (crashV (.slice A2 m2 c2) torn bytes) 43))
  have HOB : Hid (CBox (w.alloc (.cells (crashV (.slice A2 m2 c2) torn bytes) 43)) w.heap.size (.slice A2 m2 c2) torn bytes) := heap_alloc_new w _
  have LC : Hid (∀ w', Rowz w' (.slice A2 m2 c2) (keep.map Value.bool) → Calls Try.prog 34 #[.agg (crashV (.slice A2 m2 c2) torn bytes), .int .i64 100] w' fun e w'' => e = .returned (.bool (decide ((keep.length : Int) ≤ 100))) ∧ Below w'.heap.size w' w'') := fun w' h' => light_any w' _ keep torn bytes 100 h'
  clear hv hk
  unfold crashV at *
  by_cases hx : 40 < x
  · clear h
    go_enter Try.func6, Try.ntmps6
    go_wp2_with fail
    refine (lives4_any _).mono ?_
    rintro e w1 ⟨rfl, hb1⟩
    have HB1 := Lib.hid (HB0.out.trans (hb1.mono (by simp)))
    clear hb1
    go_wp2_with fail
    go_ret
    exact ⟨rfl, HB1.out⟩
  · go_enter Try.func6, Try.ntmps6
    go_wp2_with fail
    refine (lives4_any _).mono ?_
    rintro e w1 ⟨rfl, hb1⟩
    have hob1 : CBox w1 w.heap.size (.slice A2 m2 c2) torn bytes := (hb1.block w.heap.size (by simp)).trans HOB.out
    have HO1 := Lib.hid hob1
    have HB1 := Lib.hid (HB0.out.trans (hb1.mono (by simp)))
    have hs1 : w.heap.size < w1.heap.size := (Array.getElem?_eq_some_iff.1 hob1).1
    clear hb1 hob1
    go_wp2_with fail
    refine (small_any _ _ len f (HV.out.below HB1.out)).mono ?_
    rintro e w2 ⟨b, rfl, hb, hb2⟩
    have HB2 := Lib.hid (HB1.out.trans (hb2.mono HB1.out.size))
    have hob2 : CBox w2 w.heap.size (.slice A2 m2 c2) torn bytes := (hb2.block w.heap.size hs1).trans HO1.out
    have HO2 := Lib.hid hob2
    clear hb2 hob2
    cases b
    · clear h hb
      go_wp2_with fail
      go_ret
      exact ⟨rfl, HB2.out⟩
    · have h100 : 100 < keep.length := (h.resolve_left (by omega)).resolve_left (fun h => h (hb.1 rfl))
      rw [show decide ((keep.length : Int) ≤ 100) = false by simp; omega] at LC
      obtain ⟨d0, d1, d2⟩ := HO2.out.cells
      clear h hb
      go_wp2_with fail
      refine (LC.out _ (HK.out.below HB2.out)).mono ?_
      rintro e w3 ⟨rfl, hb3⟩
      have HB3 := Lib.hid (HB2.out.trans (hb3.mono HB2.out.size))
      clear hb3
      go_wp2_with fail
      go_ret
      exact ⟨rfl, HB3.out⟩

/-- Two rows of so many nil slices, whichever was made first. -/
def Two (w3 : World) (n : Nat) (s9 s10 : Value) (wc : World) : Prop :=
  ∃ fb lb, s9 = .slice (some ⟨fb, 0, none⟩) n n ∧ s10 = .slice (some ⟨lb, 0, none⟩) n n ∧ fb ≠ lb ∧ w3.heap.size ≤ fb ∧ w3.heap.size ≤ lb ∧ Below w3.heap.size w3 wc ∧
    wc.heap[fb]? = some (.cells (List.replicate n (Value.slice none 0 0)).toArray 27 (0, 0)) ∧ wc.heap[lb]? = some (.cells (List.replicate n (Value.slice none 0 0)).toArray 27 (0, 0))
theorem two_ab (w4 : World) (n : Nat) : Below w4.heap.size w4 ((w4.alloc (.cells (Array.replicate n (Value.slice none 0 0)) 27)).alloc (.cells (Array.replicate n (Value.slice none 0 0)) 27)).drew ∧
    ((w4.alloc (.cells (Array.replicate n (Value.slice none 0 0)) 27)).alloc (.cells (Array.replicate n (Value.slice none 0 0)) 27)).drew.heap[w4.heap.size]? = some (.cells (List.replicate n (Value.slice none 0 0)).toArray 27 (0, 0)) ∧
    ((w4.alloc (.cells (Array.replicate n (Value.slice none 0 0)) 27)).alloc (.cells (Array.replicate n (Value.slice none 0 0)) 27)).drew.heap[w4.heap.size + 1]? = some (.cells (List.replicate n (Value.slice none 0 0)).toArray 27 (0, 0)) := by
  have e : (List.replicate n (Value.slice none 0 0)).toArray = Array.replicate n (Value.slice none 0 0) := by simp
  rw [e]
  refine ⟨((below_new w4 _).alloc (by simp) _).drew, ?_, ?_⟩
  · show ((w4.alloc _).alloc _).heap[w4.heap.size]? = _
    rw [heap_alloc_old _ _ (by simp)]
    exact heap_alloc_new w4 _
  · have := heap_alloc_new (w4.alloc (.cells (Array.replicate n (Value.slice none 0 0)) 27)) (.cells (Array.replicate n (Value.slice none 0 0)) 27)
    rw [World.size_alloc] at this
    exact this
theorem two_a (w4 : World) (n : Nat) : Two w4 n (.slice (some ⟨w4.heap.size, 0, none⟩) n n) (.slice (some ⟨w4.heap.size + 1, 0, none⟩) n n) ((w4.alloc (.cells (Array.replicate n (Value.slice none 0 0)) 27)).alloc (.cells (Array.replicate n (Value.slice none 0 0)) 27)).drew :=
  ⟨_, _, rfl, rfl, by omega, by omega, by omega, (two_ab w4 n).1, (two_ab w4 n).2.1, (two_ab w4 n).2.2⟩
theorem two_b (w4 : World) (n : Nat) : Two w4 n (.slice (some ⟨w4.heap.size + 1, 0, none⟩) n n) (.slice (some ⟨w4.heap.size, 0, none⟩) n n) ((w4.alloc (.cells (Array.replicate n (Value.slice none 0 0)) 27)).alloc (.cells (Array.replicate n (Value.slice none 0 0)) 27)).drew :=
  ⟨_, _, rfl, rfl, by omega, by omega, by omega, (two_ab w4 n).1, (two_ab w4 n).2.2, (two_ab w4 n).2.1⟩
theorem nils_lines {w : World} {S : Nat → Prop} {X n : Nat} (h : w.heap[X]? = some (.cells (List.replicate n (Value.slice none 0 0)).toArray 27 (0, 0))) (hS : ¬ S X) (ls : Nat → List UInt8) : Lines w S X n 0 ls :=
  ⟨_, List.length_replicate, h, hS, fun j hj => ⟨⟨none, 0, 0, by simp⟩, fun h => absurd h (by omega)⟩⟩
theorem makeRows (n : Nat) (hn : n ≤ 40) : ∀ W, (Instr.makeSlice 57 (.int .i64 (n : Int)) (.int .i64 (n : Int))).run Try.prog W = .ok (.slice (some ⟨W.heap.size, 0, none⟩) n n) (W.alloc (.cells (List.replicate n (Value.slice none 0 0)).toArray 27)) := by
  intro W
  obtain ⟨i0, hi0, hz0, hz1, hz2⟩ := info_parts sinfo
  have hr := run_make (P := Try.prog) W 57 27 i0 _ Try.underlying57 hi0 hz0 .i64 .i64 (n : Int) (n : Int) (by omega) (Int.le_refl _) (by rw [hz2]; omega) (by omega)
  rw [hr]
  simp only [Int.toNat_natCast, hz1, Nat.mul_one]
  have e : madeCells (Value.cells (.slice none 0 0)) n = (List.replicate n (Value.slice none 0 0)).toArray := by
    rw [show (Value.cells (.slice none 0 0)) = #[.slice none 0 0] from rfl, ← toList_madeCells_one]
  rw [e]

/-- What the statement keeps all along: the disk, the two rows, its crash. -/
structure Kept (w0 w : World) (S : Nat → Prop) (g fb lb cb n : Nat) (s : St) (vk : Value) (torn bytes : Int) (ka kb : Nat) (fl la : Nat → List UInt8) : Prop where
  d : Dsk w S g s
  low : ∀ x, S x → w0.heap.size ≤ x
  f : Lines w S fb n ka fl
  l : Lines w S lb n kb la
  ne : fb ≠ lb
  fw : w0.heap.size ≤ fb
  lw : w0.heap.size ≤ lb
  bel : Below w0.heap.size w0 w
  box : CBox w0 cb vk torn bytes
  cb : cb < w0.heap.size
section
variable {w0 w w' : World} {S : Nat → Prop} {g fb lb cb n ka kb : Nat} {s : St} {vk : Value} {torn bytes : Int} {fl la : Nat → List UInt8}
theorem Kept.below (h : Kept w0 w S g fb lb cb n s vk torn bytes ka kb fl la) (hb : Below w.heap.size w w') : Kept w0 w' S g fb lb cb n s vk torn bytes ka kb fl la :=
  ⟨h.d.below hb, h.low, h.f.below hb, h.l.below hb, h.ne, h.fw, h.lw, h.bel.trans (hb.mono h.bel.size), h.box, h.cb⟩
theorem Kept.drew (h : Kept w0 w S g fb lb cb n s vk torn bytes ka kb fl la) : Kept w0 w.drew S g fb lb cb n s vk torn bytes ka kb fl la :=
  ⟨h.d.same (Nat.le_refl _) (fun _ _ => rfl), h.low, h.f, h.l, h.ne, h.fw, h.lw, h.bel.drew, h.box, h.cb⟩
theorem Kept.done {r : Nat × St} {e : Ending} (h : Kept w0 w S g fb lb cb n s vk torn bytes ka kb fl la) (hd : Done w S g r e w') :
    e = .returned (.int .i64 ((r.1 : Nat) : Int)) ∧ ∃ S', Kept w0 w' S' g fb lb cb n r.2 vk torn bytes ka kb fl la ∧ (∀ v l, Byt w v l → (∀ x, v.ownBlock = some x → ¬ S x) → Byt w' v l) ∧ (∀ x, x < w.heap.size → S' x → S x) := by
  obtain ⟨h1, S', h2, h3, h4, h5, h6, h7, _⟩ := hd.lines h.bel.size h.low
  exact ⟨h1, S', ⟨h2, h3, h4 _ _ _ _ h.f, h4 _ _ _ _ h.l, h.ne, h.fw, h.lw, h.bel.trans h5, h.box, h.cb⟩, h6, h7⟩
theorem Kept.red {r : List UInt8 × Nat × St} {e : Ending} (h : Kept w0 w S g fb lb cb n s vk torn bytes ka kb fl la) (hd : Red w S g r e w') :
    ∃ v, e = .returned (.tuple #[v, .int .i64 ((r.2.1 : Nat) : Int)]) ∧ Byt w' v r.1 ∧ Kept w0 w' S g fb lb cb n r.2.2 vk torn bytes ka kb fl la := by
  obtain ⟨v, h1, h2, h3, h4⟩ := hd
  exact ⟨v, h1, h2.byt, ⟨h3, h.low, h.f.trn h4 (fun _ hx _ => hx), h.l.trn h4 (fun _ hx _ => hx), h.ne, h.fw, h.lw, h.bel.trans (h4.below h.bel.size h.low), h.box, h.cb⟩⟩
theorem Kept.cbox (h : Kept w0 w S g fb lb cb n s vk torn bytes ka kb fl la) : CBox w cb vk torn bytes := (h.bel.block cb h.cb).trans h.box
/-- Latest's place written. -/
theorem Kept.setL (h : Kept w0 w S g fb lb cb n s vk torn bytes ka kb fl la) {q : Nat} {v : Value} {l : List UInt8} (hv : Byt w v l) (hl : l.length = 512) (hs : ∀ x, v.ownBlock = some x → ¬ S x) (k' : Nat) (hk : ∀ j, j < k' → j = q ∨ j < kb) :
    Kept w0 (w.setCell ⟨lb, q, none⟩ v) S g fb lb cb n s vk torn bytes ka k' fl (fun j => if j = q then l else la j) :=
  ⟨h.d.trn (T := fun x => x = lb) (Trn.of_grown (grownCell w lb q v) (fun i hi => by injection hi with hi; exact hi.symm)) (fun k hk e => h.l.off (e ▸ hk)), h.low, h.f.other h.l h.ne (grownCell w lb q v), h.l.set hv hl hs k' hk, h.ne, h.fw, h.lw, h.bel.setCell h.lw _, h.box, h.cb⟩
theorem Kept.setF (h : Kept w0 w S g fb lb cb n s vk torn bytes ka kb fl la) {q : Nat} {v : Value} {l : List UInt8} (hv : Byt w v l) (hl : l.length = 512) (hs : ∀ x, v.ownBlock = some x → ¬ S x) (k' : Nat) (hk : ∀ j, j < k' → j = q ∨ j < ka) :
    Kept w0 (w.setCell ⟨fb, q, none⟩ v) S g fb lb cb n s vk torn bytes k' kb (fun j => if j = q then l else fl j) la :=
  ⟨h.d.trn (T := fun x => x = fb) (Trn.of_grown (grownCell w fb q v) (fun i hi => by injection hi with hi; exact hi.symm)) (fun k hk e => h.f.off (e ▸ hk)), h.low, h.f.set hv hl hs k' hk, h.l.other h.f (Ne.symm h.ne) (grownCell w fb q v), h.ne, h.fw, h.lw, h.bel.setCell h.fw _, h.box, h.cb⟩
theorem Kept.same (h : Kept w0 w S g fb lb cb n s vk torn bytes ka kb fl la) {fl' la' : Nat → List UInt8} (h1 : ∀ j, j < ka → fl j = fl' j) (h2 : ∀ j, j < kb → la j = la' j) : Kept w0 w S g fb lb cb n s vk torn bytes ka kb fl' la' :=
  ⟨h.d, h.low, h.f.same h1, h.l.same h2, h.ne, h.fw, h.lw, h.bel, h.box, h.cb⟩
theorem Kept.copied (h : Kept w0 w S g fb lb cb n s vk torn bytes n n fl la) {fl' la' : Nat → List UInt8} (h1 : Lines w' S fb n n fl') (h2 : Lines w' S lb n n la') (hg : w.grownBy w' (some fb)) : Kept w0 w' S g fb lb cb n s vk torn bytes n n fl' la' :=
  ⟨h.d.trn (T := fun x => x = fb) (Trn.of_grown hg (fun i hi => by injection hi with hi; exact hi.symm)) (fun k hk e => h.f.off (e ▸ hk)), h.low, h1, h2, h.ne, h.fw, h.lw, h.bel.trans ⟨hg.os, hg.tape, hg.output, hg.size, fun k hk => hg.block k (Nat.lt_of_lt_of_le hk h.bel.size) (by rintro ⟨rfl⟩; have := h.fw; omega)⟩, h.box, h.cb⟩
end
theorem zeros_sect (n j : Nat) (hj : j < n) : sectB (newS n).B j = rowB 0 := by
  unfold sectB newS rowB
  rw [List.drop_replicate, List.take_replicate]
  congr 1
  omega
def Rel1 (w0 : World) (S : Nat → Prop) (g fb lb cb n : Nat) (vk : Value) (torn bytes : Int) (i : Value) (wr : World) : Prop :=
  ∃ k : Nat, k ≤ n ∧ i = .int .i64 (k : Int) ∧ Kept w0 wr S g fb lb cb n (newS n) vk torn bytes k k (fun j => sectB (newS n).B j) (fun j => readB (newS n) j)
def Rel2 (w0 : World) (len g fb lb cb n : Nat) (vk : Value) (torn bytes : Int) (i : Value) (wr : World) : Prop :=
  ∃ (k : Nat) (s : St) (S : Nat → Prop), k ≤ len ∧ i = .int .i64 (k : Int) ∧ secs s = n ∧ s.F = none ∧ Kept w0 wr S g fb lb cb n s vk torn bytes n n (fun j => sectB s.B j) (fun j => readB s j)
def Rel3 (w0 : World) (S : Nat → Prop) (g fb lb cb n : Nat) (s s3 : St) (vk : Value) (torn bytes : Int) (t i : Value) (wr : World) : Prop :=
  ∃ k c : Nat, k ≤ n ∧ i = .int .i64 (k : Int) ∧ t = .int .i64 (c : Int) ∧ c ≤ 1 ∧ (c = 1 → ∃ i0, i0 < k ∧ Spec s torn i0) ∧ Kept w0 wr S g fb lb cb n s3 vk torn bytes n n (fun j => sectB s.B j) (fun j => readB s j)

theorem bytes_ne {l m : List UInt8} (h : l ≠ m) : ((⟨l.toArray⟩ : ByteArray).toList == (⟨m.toArray⟩ : ByteArray).toList) = false := by
  rw [ByteArray.toList_eq, ByteArray.toList_eq, beq_eq_false_iff_ne]
  exact h
theorem exec_ne {o : Oper} {a : Act} {u : World} (t t2 : TypeId) (x y : Operand) (ho : o.op = .binOp .eql t x y t2) (l m : List UInt8) (hx : a.eval x = .string ⟨l.toArray⟩) (hy : a.eval y = .string ⟨m.toArray⟩) (h : l ≠ m) :
    (execOp a.eval o).run Try.prog u = .ok (.value (.bool false)) u := by
  have hg : eqGuard .eql t x y (.string ⟨l.toArray⟩) (.string ⟨m.toArray⟩) = pure () := rfl
  unfold execOp
  simp only [ho, hx, hy, hg, binOp_string_eql, bytes_ne h, Sem.run_bind, Sem.run_pure, Result.andThen_ok]

set_option maxRecDepth 100000 in
set_option maxHeartbeats 40000000 in
theorem walk_few (w : World) (x : Int) (v : Value) (len : Nat) (f : Nat → ActD) (vk : Value) (keep : List Bool) (torn bytes : Int) (hv : Acts w v len f) (hk : Rowz w vk (keep.map Value.bool)) (hbt : -9223372036854775808 ≤ bytes ∧ bytes ≤ 9223372036854775807) (hx : x ≤ 40) (hs : smallA len f) (hkl : keep.length ≤ 100) :
    Calls Try.prog 6 #[.int .i64 x, v, .agg (crashV vk torn bytes)] w fun e w' => e = .returned (.bool true) ∧ Below w.heap.size w w' := by
  obtain ⟨A, c, rfl, hnc, hcm⟩ := hv.form
  obtain ⟨A2, m2, c2, rfl, N2, hnc2, hcm2⟩ := hk.form
  obtain ⟨w0, hw0⟩ : ∃ w0, w0 = w.alloc (.cells (crashV (.slice A2 m2 c2) torn bytes) 43) := ⟨_, rfl⟩
  have HB0 : Hid (Below w.heap.size w w0) := hw0 ▸ below_new w _
  have HBX : Hid (CBox w0 w.heap.size (.slice A2 m2 c2) torn bytes) := hw0 ▸ heap_alloc_new w _
  have HC0 : Hid (w.heap.size < w0.heap.size) := by rw [Hid, hw0]; simp
  have HW0 := Lib.hid hw0
  have HV := Lib.hid hv
  have HK := Lib.hid hk
  have HSM := Lib.hid hs
  have HKL := Lib.hid hkl
  have h80 := hs.1
  have LC : Hid (∀ w', Rowz w' (.slice A2 m2 c2) (keep.map Value.bool) → Calls Try.prog 34 #[.agg (crashV (.slice A2 m2 c2) torn bytes), .int .i64 100] w' fun e w'' => e = .returned (.bool true) ∧ Below w'.heap.size w' w'') := fun w' h' => by
    have := light_any w' _ keep torn bytes 100 h'
    rw [show decide ((keep.length : Int) ≤ 100) = true by simp; omega] at this
    exact this
  have KC : Hid (∀ w', Rowz w' (.slice A2 m2 c2) (keep.map Value.bool) → Calls Try.prog 24 #[.agg (crashV (.slice A2 m2 c2) torn bytes)] w' (CrashOwn w' keep torn bytes)) := fun w' h' => kcrash_any w' _ keep torn bytes h' HKL.out
  clear hv hk hs hw0 hkl N2
  unfold crashV at LC KC
  go_enter Try.func6, Try.ntmps6
  unfold crashV
  go_wp2_with fail
  rw [show w.alloc (.cells #[.slice A2 m2 c2, .int .i64 torn, .int .i64 bytes] 43) = w0 from HW0.out.symm]
  clear HW0
  refine (lives4_any _).mono ?_
  rintro e w1 ⟨rfl, hb1⟩
  have HB1 := Lib.hid hb1
  clear hb1
  go_wp2_with fail
  refine (small_any _ _ len f ((HV.out.below HB0.out).below HB1.out)).mono ?_
  rintro e w2 ⟨b, rfl, hb, hb2⟩
  obtain rfl : b = true := hb.2 HSM.out
  have HB2 := Lib.hid (HB1.out.trans (hb2.mono HB1.out.size))
  clear hb hb2
  obtain ⟨d0, d1, d2⟩ := CBox.cells (show CBox w2 w.heap.size (.slice A2 m2 c2) torn bytes from (HB2.out.block w.heap.size HC0.out).trans HBX.out)
  go_wp2_with fail
  refine (LC.out _ ((HK.out.below HB0.out).below HB2.out)).mono ?_
  rintro e w3 ⟨rfl, hb3⟩
  have HB3 := Lib.hid (HB2.out.trans (hb3.mono HB2.out.size))
  clear hb3 d0 d1 d2
  by_cases hx1 : x < 1
  · go_wp2_with fail
    refine (snew_bad _ x (.inl hx1)).mono ?_
    rintro e w4 ⟨rfl, rfl⟩
    go_wp2_with fail
    go_ret
    exact ⟨rfl, HB0.out.trans (HB3.out.mono (Nat.le_of_lt HC0.out))⟩
  · obtain ⟨n, rfl⟩ : ∃ n : Nat, x = (n : Int) := ⟨x.toNat, by omega⟩
    have hn1 : 1 ≤ n := by omega
    have hn40 : n ≤ 40 := by omega
    go_wp2_with fail
    refine (snew_any _ n (by omega) (by omega)).mono ?_
    rintro e w4 ⟨g, rfl, hd4, hb4⟩
    obtain ⟨S, HD4, HS4⟩ : ∃ S, Hid (Dsk w4 S g (newS n)) ∧ Hid (∀ k, S k → w0.heap.size ≤ k) := ⟨_, hd4, fun k hk => Nat.le_trans HB3.out.size hk.1⟩
    have HB4 := Lib.hid (HB3.out.trans (hb4.mono HB3.out.size))
    clear hd4 hb4 HB1 HB2 HB3 LC
    have MK := makeRows n hn40
    go_wp2_with fail
    go_cut [9, 10] from 44 (fun s9 s10 wc => Two w4 n s9 s10 wc)
    case first =>
      rename_i J0 K0 hJ0 hK0
      have hs4 : (w4.alloc (.cells (Array.replicate n (Value.slice none 0 0)) 27)).heap.size = w4.heap.size + 1 := by simp
      go_region
      · refine hK0 _ _ (Met.intro (hJ0 _ _ ?_))
        repeat apply Exists.intro
        refine ⟨two_a w4 n, rfl⟩
      · refine hK0 _ _ (Met.intro (hJ0 _ _ ?_))
        repeat apply Exists.intro
        refine ⟨two_b w4 n, rfl⟩
    case rest =>
      obtain ⟨fb, lb, rfl, rfl, hne, hfw, hlw, hbc, hfb, hlb⟩ := hcut
      have HN : Hid (Kept w0 wc S g fb lb w.heap.size n (newS n) (.slice A2 m2 c2) torn bytes 0 0 (fun j => sectB (newS n).B j) (fun j => readB (newS n) j)) :=
        ⟨HD4.out.below hbc, HS4.out, nils_lines hfb (fun hs => by have := HD4.out.lt _ hs; omega) _, nils_lines hlb (fun hs => by have := HD4.out.lt _ hs; omega) _, hne, Nat.le_trans HB4.out.size hfw, Nat.le_trans HB4.out.size hlw, HB4.out.trans (hbc.mono HB4.out.size), HBX.out, HC0.out⟩
      have RZ : Hid (∀ w, Calls Try.prog 10 #[.int .u8 0] w (Made w (rowB 0))) := fun w => lrow_any w 0
      clear hne hfw hlw hbc hfb hlb HD4 HS4 HB4 MK
      go_wp2_with fail
      go_loopw [11] (fun i wr => Rel1 w0 S g fb lb w.heap.size n (.slice A2 m2 c2) torn bytes i wr) (fun i _ => n - (intOf i).toNat)
      case atStart => exact ⟨0, by omega, rfl, HN.out⟩
      case round =>
        obtain ⟨k, hk, rfl, hkp⟩ := hrel
        have HKP := Lib.hid hkp
        clear hkp HN
        by_cases hlt : k < n
        · have hkn : (k : Int) < (n : Int) := by omega
          go_wp2_with fail
          refine (RZ.out _).mono ?_
          rintro e w1 ⟨v1, rfl, hown1, hb1⟩
          have HK1 := Lib.hid (HKP.out.below hb1)
          have HV1 := Lib.hid hown1.byt
          have HN1 : Hid (∀ x, v1.ownBlock = some x → ¬ S x) := fun x hx hs => by have := (World.ownsRow.lt hown1 x hx).1; have := HKP.out.d.lt x hs; omega
          obtain ⟨Aa, na, ca, rfl, Na, _, _⟩ := hown1.byt.form
          clear hown1 hb1 Na
          go_wp2_with fail
          refine (RZ.out _).mono ?_
          rintro e w2 ⟨v2, rfl, hown2, hb2⟩
          have HK2 := Lib.hid (HK1.out.below hb2)
          have HV12 := Lib.hid (HV1.out.below hb2)
          have HV2 := Lib.hid hown2.byt
          have HN2 : Hid (∀ x, v2.ownBlock = some x → ¬ S x) := fun x hx hs => by have := (World.ownsRow.lt hown2 x hx).1; have := HK1.out.d.lt x hs; omega
          obtain ⟨Ab, nb, cb2, rfl, Nb, _, _⟩ := hown2.byt.form
          clear hown2 hb2 Nb HK1 HV1
          obtain ⟨_, _, _, hc1⟩ := HK2.out.f.any hlt
          have hf1 := HK2.out.f.frozen k
          have HK3 := Lib.hid (HK2.out.setF (q := k) HV12.out (rowB_len 0) HN1.out (k + 1) (fun j hj => by omega))
          have HV23 := Lib.hid (HV2.out.lines HK2.out.f (grownCell w2 fb k (.slice Aa na ca)))
          obtain ⟨_, _, _, hc2⟩ := HK3.out.l.any hlt
          have hf2 := HK3.out.l.frozen k
          have HK4 := Lib.hid ((HK3.out.setL (q := k) HV23.out (rowB_len 0) HN2.out (k + 1) (fun j hj => by omega)).same (fl' := fun j => sectB (newS n).B j) (la' := fun j => readB (newS n) j)
            (fun j hj => by
              by_cases e : j = k
              · rw [if_pos e, zeros_sect n j (by omega)]
              · rw [if_neg e])
            (fun j hj => by
              show (if j = k then rowB 0 else readB (newS n) j) = readB (newS n) j
              by_cases e : j = k
              · rw [if_pos e]; exact (zeros_sect n j (by omega)).symm
              · rw [if_neg e]))
          clear HK2 HK3 HV12 HV2 HV23 HN1 HN2
          go_wp2_with fail
          go_roundw
          case rel => exact ⟨k + 1, by omega, by go_num, HK4.out⟩
          case measure => simp [intOf]; omega
        · have hkn : ¬ (k : Int) < (n : Int) := by omega
          obtain rfl : k = n := by omega
          clear RZ
          go_wp2_with fail
          go_loopw [12] (fun i wr => Rel2 w0 len g fb lb w.heap.size k (.slice A2 m2 c2) torn bytes i wr) (fun i _ => len - (intOf i).toNat)
          case atStart => exact ⟨0, newS k, S, by omega, rfl, secs_new k, rfl, HKP.out⟩
          case round =>
            clear HKP
            obtain ⟨n, hn⟩ : ∃ n, n = k := ⟨_, rfl⟩
            subst hn
            obtain ⟨k, s, S, hk, rfl, hsec, hF, hkp⟩ := hrel
            have HKP := Lib.hid hkp
            have HSEC := Lib.hid hsec
            have HF := Lib.hid hF
            have HBW := Lib.hid (HB0.out.trans (hkp.bel.mono (Nat.le_of_lt HC0.out)))
            clear hkp hsec hF
            by_cases hlt : k < len
            · have hkn : (k : Int) < (len : Int) := by omega
              obtain ⟨b, off, rfl, hb, hc, ha⟩ := HV.out.at hlt
              generalize f k = a at *
              have HC : Hid (∀ W, Below w.heap.size w W → ∀ i y, (actL a)[i]? = some y → W.cell? ⟨b, off + k * 8 + i, none⟩ = some y) := fun W hW i y hy => (hW.cell (p := ⟨b, off + k * 8 + i, none⟩) hb).trans (hc i y hy)
              have HOK := Lib.hid ha
              obtain ⟨q, hq, hqn⟩ : ∃ q : Nat, a.pl % (n : Int) = (q : Int) ∧ q < n := ⟨(a.pl % (n : Int)).toNat, by have := Int.emod_nonneg a.pl (show (n : Int) ≠ 0 by omega); omega, by have := Int.emod_nonneg a.pl (show (n : Int) ≠ 0 by omega); have := Int.emod_lt_of_pos a.pl (show (0 : Int) < (n : Int) by omega); omega⟩
              obtain ⟨r, hr, hr6⟩ : ∃ r : Nat, a.kind % 6 = (r : Int) ∧ r < 6 := ⟨(a.kind % 6).toNat, by omega, by omega⟩
              have PQ := Lib.hid (fun w => pick_any a.pl (n : Int) w (by omega) (by omega))
              have PK := Lib.hid (fun w => pick_any a.kind 6 w (by omega) (by omega))
              rw [hq] at PQ
              rw [hr] at PK
              have HQ : Hid (q < secs s) := by rw [Hid, HSEC.out]; exact hqn
              have hqi : (q : Int) < (n : Int) := by omega
              have c1 : wr.cell? ⟨b, off + k * 8 + 1, none⟩ = some (.int .i64 a.pl) := HC.out wr HBW.out 1 _ rfl
              have c0 : wr.cell? ⟨b, off + k * 8, none⟩ = some (.int .i64 a.kind) := HC.out wr HBW.out 0 _ rfl
              clear hc hb ha hq hr
              go_wp2_with fail
              refine (PQ.out _).mono ?_
              rintro e w5 ⟨rfl, rfl⟩
              go_wp2_with fail
              refine (PK.out _).mono ?_
              rintro e w5 ⟨rfl, rfl⟩
              by_cases h1 : r = 1
              · subst h1
                go_wp2_with (refine wpList_loadAt Try.underlying45 (cs := actL a) actSize rfl _ rfl b (off + k * 8) rfl (HC.out wr HBW.out) ?_)
                refine (lbytes_any wr a (HOK.out.below HBW.out)).mono ?_
                rintro e w6 ⟨v6, rfl, hown6, hb6⟩
                have HK6 := Lib.hid (HKP.out.below hb6)
                have HV6 := Lib.hid hown6.byt
                have HN6 : Hid (∀ x, v6.ownBlock = some x → ¬ S x) := fun x hx hs => by have := (World.ownsRow.lt hown6 x hx).1; have := HKP.out.d.lt x hs; omega
                clear hown6 hb6 c0 c1
                go_wp2_with fail
                refine (write0 HK6.out.d HF.out HQ.out HV6.out (actB_len a) HN6.out).mono ?_
                intro e w7 hdone
                obtain ⟨rfl, S7, hk7, _, hs7⟩ := HK6.out.done hdone
                have HK7 := Lib.hid hk7
                have HBW7 := Lib.hid (HB0.out.trans (HK7.out.bel.mono (Nat.le_of_lt HC0.out)))
                clear hdone hk7 hs7 HK6 HV6 HN6
                go_wp2_with (refine wpList_loadAt Try.underlying45 (cs := actL a) actSize rfl _ rfl b (off + k * 8) rfl (HC.out w7 HBW7.out) ?_)
                refine (lbytes_any w7 a (HOK.out.below HBW7.out)).mono ?_
                rintro e w8 ⟨v8, rfl, hown8, hb8⟩
                have HK8 := Lib.hid (HK7.out.below hb8)
                have HN8 : Hid (∀ x, v8.ownBlock = some x → ¬ S7 x) := fun x hx hs => by have := (World.ownsRow.lt hown8 x hx).1; have := HK7.out.d.lt x hs; omega
                have HV8 := Lib.hid hown8.byt
                obtain ⟨A8, n8, c8, rfl, N8, _, _⟩ := hown8.byt.form
                obtain ⟨Ax, mx, cx, hcx⟩ := HK8.out.l.any hqn
                have hfx := HK8.out.l.frozen q
                have HK9 := Lib.hid ((HK8.out.setL (q := q) HV8.out (actB_len a) HN8.out n (fun j hj => .inr hj)).same (fl' := fun j => sectB (writeS s q (actB a)).B j) (la' := fun j => readB (writeS s q (actB a)) j) (fun _ _ => rfl) (fun j _ => by
                  rw [read_write]
                  by_cases e : j = q
                  · rw [if_pos e, if_pos e.symm]
                  · rw [if_neg e, if_neg (fun h => e h.symm)]))
                have HF9 : Hid ((writeS s q (actB a)).F = none) := HF.out
                have HS9 : Hid (secs (writeS s q (actB a)) = n) := HSEC.out
                clear hown8 hb8 N8 HK8 HN8 HV8 HK7
                generalize writeS s q (actB a) = s9 at *
                go_wp2_with fail
                generalize w8.setCell ⟨lb, q, none⟩ (.slice A8 n8 c8) = w9 at *
                refine (read0 HK9.out.d HF9.out (by rw [HS9.out]; exact hqn)).mono ?_
                intro e w10 hred
                obtain ⟨v10, rfl, hv10, hk10⟩ := HK9.out.red hred
                obtain ⟨A10, n10, c10, rfl, N10, _, _⟩ := hv10.form
                obtain ⟨Al, cl, hcl, hbl, _, _, _⟩ := hk10.l.cell hqn
                have HV10 := Lib.hid (show Byt w10.drew _ _ from hv10)
                have HCL := Lib.hid (show w10.drew.cell? _ = _ from hcl)
                have HBL := Lib.hid (show Byt w10.drew _ _ from hbl)
                have HK10 := Lib.hid hk10.drew
                clear hred hv10 hk10 N10 hcl hbl HK9
                go_wp2_with fail
                refine wp_region_R (R := fun x y => x = y) (by kernel_rfl) (fun _ => rfl) (fun h k => h.trans k) (by kernel_rfl) (fun d v c a w h => by cases d <;> exact h)
                  [(0, false), (1, false), (2, false), (3, false), (4, false), (5, false), (6, false), (7, false), (8, false), (9, false), (10, false), (11, false)] rfl (by kernel_rfl) (by kernel_rfl) ?_
                simp only [sel, List.getElem?_toArray, List.getElem?_cons_succ, List.getElem?_cons_zero]
                generalize w10.drew = wd at *
                generalize readB s9 q = rl at *
                iterate 4 (refine sch_take ?_ rfl ?_ ?_; rotate_left; (focus (intro u hu; go_simp <;> rfl)); simp only [Act.put, List.setIfInBounds_toArray, List.set_cons_zero, List.set_cons_succ])
                (refine sch_take ?_ rfl ?_ ?_; rotate_left; (focus (intro u hu; have tx := hu ▸ stext_of HV10.out; clear hu; go_simp <;> rfl)); simp only [Act.put, List.setIfInBounds_toArray, List.set_cons_zero, List.set_cons_succ])
                iterate 3 (refine sch_take ?_ rfl ?_ ?_; rotate_left; (focus (intro u hu; go_simp <;> rfl)); simp only [Act.put, List.setIfInBounds_toArray, List.set_cons_zero, List.set_cons_succ])
                (refine sch_take ?_ rfl ?_ ?_; rotate_left; (focus (intro u hu; have cx := hu ▸ HCL.out; clear hu; go_simp <;> rfl)); simp only [Act.put, List.setIfInBounds_toArray, List.set_cons_zero, List.set_cons_succ])
                (refine sch_take ?_ rfl ?_ ?_; rotate_left; (focus (intro u hu; have tx := hu ▸ stext_of HBL.out; clear hu; go_simp <;> rfl)); simp only [Act.put, List.setIfInBounds_toArray, List.set_cons_zero, List.set_cons_succ])
                iterate 2 (refine sch_take ?_ rfl ?_ ?_; rotate_left; (focus (intro u hu; go_simp <;> rfl)); simp only [Act.put, List.setIfInBounds_toArray, List.set_cons_zero, List.set_cons_succ])
                refine sch_nil ?_
                go_wp2_with fail
                go_roundw
                case rel => exact ⟨k + 1, s9, S7, by omega, by go_num, HS9.out, HF9.out, HK10.out⟩
                case measure => simp [intOf]; omega
              · have h1' : ((r : Int) == 1) = false := ne_int h1
                by_cases h2 : r = 2
                · subst h2
                  clear h1
                  go_wp2_with (refine wpList_loadAt Try.underlying45 (cs := actL a) actSize rfl _ rfl b (off + k * 8) rfl (HC.out wr HBW.out) ?_)
                  refine (lbytes_any wr a (HOK.out.below HBW.out)).mono ?_
                  rintro e w6 ⟨v6, rfl, hown6, hb6⟩
                  have HK6 := Lib.hid (HKP.out.below hb6)
                  have HV6 := Lib.hid hown6.byt
                  have HN6 : Hid (∀ x, v6.ownBlock = some x → ¬ S x) := fun x hx hs => by have := (World.ownsRow.lt hown6 x hx).1; have := HKP.out.d.lt x hs; omega
                  clear hown6 hb6 c0 c1
                  go_wp2_with fail
                  refine (write0 HK6.out.d HF.out HQ.out HV6.out (actB_len a) HN6.out).mono ?_
                  intro e w7 hdone
                  obtain ⟨rfl, S7, hk7, _, hs7⟩ := HK6.out.done hdone
                  have HK7 := Lib.hid hk7
                  have HBW7 := Lib.hid (HB0.out.trans (HK7.out.bel.mono (Nat.le_of_lt HC0.out)))
                  clear hdone hk7 hs7 HK6 HV6 HN6
                  go_wp2_with (refine wpList_loadAt Try.underlying45 (cs := actL a) actSize rfl _ rfl b (off + k * 8) rfl (HC.out w7 HBW7.out) ?_)
                  refine (lbytes_any w7 a (HOK.out.below HBW7.out)).mono ?_
                  rintro e w8 ⟨v8, rfl, hown8, hb8⟩
                  have HK8 := Lib.hid (HK7.out.below hb8)
                  have HN8 : Hid (∀ x, v8.ownBlock = some x → ¬ S7 x) := fun x hx hs => by have := (World.ownsRow.lt hown8 x hx).1; have := HK7.out.d.lt x hs; omega
                  have HV8 := Lib.hid hown8.byt
                  obtain ⟨A8, n8, c8, rfl, N8, _, _⟩ := hown8.byt.form
                  obtain ⟨Ax, mx, cx, hcx⟩ := HK8.out.l.any hqn
                  have hfx := HK8.out.l.frozen q
                  have HK9 := Lib.hid ((HK8.out.setL (q := q) HV8.out (actB_len a) HN8.out n (fun j hj => .inr hj)).same (fl' := fun j => sectB (writeS s q (actB a)).B j) (la' := fun j => readB (writeS s q (actB a)) j) (fun _ _ => rfl) (fun j _ => by
                    rw [read_write]
                    by_cases e : j = q
                    · rw [if_pos e, if_pos e.symm]
                    · rw [if_neg e, if_neg (fun h => e h.symm)]))
                  have HF9 : Hid ((writeS s q (actB a)).F = none) := HF.out
                  have HS9 : Hid (secs (writeS s q (actB a)) = n) := HSEC.out
                  clear hown8 hb8 N8 HK8 HN8 HV8 HK7
                  generalize writeS s q (actB a) = s9 at *
                  go_wp2_with fail
                  generalize w8.setCell ⟨lb, q, none⟩ (.slice A8 n8 c8) = w9 at *
                  refine (read0 HK9.out.d HF9.out (by rw [HS9.out]; exact hqn)).mono ?_
                  intro e w10 hred
                  obtain ⟨v10, rfl, hv10, hk10⟩ := HK9.out.red hred
                  obtain ⟨A10, n10, c10, rfl, N10, _, _⟩ := hv10.form
                  obtain ⟨Al, cl, hcl, hbl, _, _, _⟩ := hk10.l.cell hqn
                  have HV10 := Lib.hid (show Byt w10.drew _ _ from hv10)
                  have HCL := Lib.hid (show w10.drew.cell? _ = _ from hcl)
                  have HBL := Lib.hid (show Byt w10.drew _ _ from hbl)
                  have HK10 := Lib.hid hk10.drew
                  clear hred hv10 hk10 N10 hcl hbl HK9
                  go_wp2_with fail
                  refine wp_region_R (R := fun x y => x = y) (by kernel_rfl) (fun _ => rfl) (fun h k => h.trans k) (by kernel_rfl) (fun d v c a w h => by cases d <;> exact h)
                    [(0, false), (1, false), (2, false), (3, false), (4, false), (5, false), (6, false), (7, false), (8, false), (9, false), (10, false), (11, false)] rfl (by kernel_rfl) (by kernel_rfl) ?_
                  simp only [sel, List.getElem?_toArray, List.getElem?_cons_succ, List.getElem?_cons_zero]
                  generalize w10.drew = wd at *
                  generalize readB s9 q = rl at *
                  iterate 4 (refine sch_take ?_ rfl ?_ ?_; rotate_left; (focus (intro u hu; go_simp <;> rfl)); simp only [Act.put, List.setIfInBounds_toArray, List.set_cons_zero, List.set_cons_succ])
                  (refine sch_take ?_ rfl ?_ ?_; rotate_left; (focus (intro u hu; have tx := hu ▸ stext_of HV10.out; clear hu; go_simp <;> rfl)); simp only [Act.put, List.setIfInBounds_toArray, List.set_cons_zero, List.set_cons_succ])
                  iterate 3 (refine sch_take ?_ rfl ?_ ?_; rotate_left; (focus (intro u hu; go_simp <;> rfl)); simp only [Act.put, List.setIfInBounds_toArray, List.set_cons_zero, List.set_cons_succ])
                  (refine sch_take ?_ rfl ?_ ?_; rotate_left; (focus (intro u hu; have cx := hu ▸ HCL.out; clear hu; go_simp <;> rfl)); simp only [Act.put, List.setIfInBounds_toArray, List.set_cons_zero, List.set_cons_succ])
                  (refine sch_take ?_ rfl ?_ ?_; rotate_left; (focus (intro u hu; have tx := hu ▸ stext_of HBL.out; clear hu; go_simp <;> rfl)); simp only [Act.put, List.setIfInBounds_toArray, List.set_cons_zero, List.set_cons_succ])
                  iterate 2 (refine sch_take ?_ rfl ?_ ?_; rotate_left; (focus (intro u hu; go_simp <;> rfl)); simp only [Act.put, List.setIfInBounds_toArray, List.set_cons_zero, List.set_cons_succ])
                  refine sch_nil ?_
                  go_wp2_with fail
                  go_roundw
                  case rel => exact ⟨k + 1, s9, S7, by omega, by go_num, HS9.out, HF9.out, HK10.out⟩
                  case measure => simp [intOf]; omega
                · have h2' : ((r : Int) == 2) = false := ne_int h2
                  by_cases h3 : r = 3
                  · subst h3
                    clear h1 h2
                    clear c0 c1
                    go_wp2_with fail
                    refine (flush0 HKP.out.d HF.out).mono ?_
                    intro e w7 hdone
                    obtain ⟨rfl, S7, hk7, _, hs7⟩ := HKP.out.done hdone
                    have HK7 := Lib.hid hk7
                    have HOKS := Lib.hid HKP.out.d.ok
                    clear hdone hk7 hs7
                    go_wp2_with (refine wpList_copyL rfl _ _ rfl rfl rfl HK7.out.f HK7.out.l HK7.out.ne ?_; intro w9 hl1 hl2 hg9 hs9; have HK9 := Lib.hid ((HK7.out.copied hl1 hl2 hg9).same (fl' := fun j => sectB (settleS (fun _ => 512) s).B j) (la' := fun j => readB (settleS (fun _ => 512) s) j) (fun j _ => (flush_sect HOKS.out j).symm) (fun j _ => (flush_sect HOKS.out j).symm)); clear hl1 hl2 hg9 hs9)
                    have HF9 : Hid ((settleS (fun _ => 512) s).F = none) := HF.out
                    have HS9 : Hid (secs (settleS (fun _ => 512) s) = n) := (secs_settle _ HOKS.out).trans HSEC.out
                    clear HK7
                    generalize settleS (fun _ => 512) s = s9 at *
                    refine (read0 HK9.out.d HF9.out (by rw [HS9.out]; exact hqn)).mono ?_
                    intro e w10 hred
                    obtain ⟨v10, rfl, hv10, hk10⟩ := HK9.out.red hred
                    obtain ⟨A10, n10, c10, rfl, N10, _, _⟩ := hv10.form
                    obtain ⟨Al, cl, hcl, hbl, _, _, _⟩ := hk10.l.cell hqn
                    have HV10 := Lib.hid (show Byt w10.drew _ _ from hv10)
                    have HCL := Lib.hid (show w10.drew.cell? _ = _ from hcl)
                    have HBL := Lib.hid (show Byt w10.drew _ _ from hbl)
                    have HK10 := Lib.hid hk10.drew
                    clear hred hv10 hk10 N10 hcl hbl HK9
                    go_wp2_with fail
                    refine wp_region_R (R := fun x y => x = y) (by kernel_rfl) (fun _ => rfl) (fun h k => h.trans k) (by kernel_rfl) (fun d v c a w h => by cases d <;> exact h)
                      [(0, false), (1, false), (2, false), (3, false), (4, false), (5, false), (6, false), (7, false), (8, false), (9, false), (10, false), (11, false)] rfl (by kernel_rfl) (by kernel_rfl) ?_
                    simp only [sel, List.getElem?_toArray, List.getElem?_cons_succ, List.getElem?_cons_zero]
                    generalize w10.drew = wd at *
                    generalize readB s9 q = rl at *
                    iterate 4 (refine sch_take ?_ rfl ?_ ?_; rotate_left; (focus (intro u hu; go_simp <;> rfl)); simp only [Act.put, List.setIfInBounds_toArray, List.set_cons_zero, List.set_cons_succ])
                    (refine sch_take ?_ rfl ?_ ?_; rotate_left; (focus (intro u hu; have tx := hu ▸ stext_of HV10.out; clear hu; go_simp <;> rfl)); simp only [Act.put, List.setIfInBounds_toArray, List.set_cons_zero, List.set_cons_succ])
                    iterate 3 (refine sch_take ?_ rfl ?_ ?_; rotate_left; (focus (intro u hu; go_simp <;> rfl)); simp only [Act.put, List.setIfInBounds_toArray, List.set_cons_zero, List.set_cons_succ])
                    (refine sch_take ?_ rfl ?_ ?_; rotate_left; (focus (intro u hu; have cx := hu ▸ HCL.out; clear hu; go_simp <;> rfl)); simp only [Act.put, List.setIfInBounds_toArray, List.set_cons_zero, List.set_cons_succ])
                    (refine sch_take ?_ rfl ?_ ?_; rotate_left; (focus (intro u hu; have tx := hu ▸ stext_of HBL.out; clear hu; go_simp <;> rfl)); simp only [Act.put, List.setIfInBounds_toArray, List.set_cons_zero, List.set_cons_succ])
                    iterate 2 (refine sch_take ?_ rfl ?_ ?_; rotate_left; (focus (intro u hu; go_simp <;> rfl)); simp only [Act.put, List.setIfInBounds_toArray, List.set_cons_zero, List.set_cons_succ])
                    refine sch_nil ?_
                    go_wp2_with fail
                    go_roundw
                    case rel => exact ⟨k + 1, s9, S7, by omega, by go_num, HS9.out, HF9.out, HK10.out⟩
                    case measure => simp [intOf]; omega
                  · have h3' : ((r : Int) == 3) = false := ne_int h3
                    clear h1 h2 h3
                    clear c0 c1
                    have HK9 := HKP
                    have HF9 := HF
                    have HS9 := HSEC
                    go_wp2_with fail
                    refine (read0 HK9.out.d HF9.out (by rw [HS9.out]; exact hqn)).mono ?_
                    intro e w10 hred
                    obtain ⟨v10, rfl, hv10, hk10⟩ := HK9.out.red hred
                    obtain ⟨A10, n10, c10, rfl, N10, _, _⟩ := hv10.form
                    obtain ⟨Al, cl, hcl, hbl, _, _, _⟩ := hk10.l.cell hqn
                    have HV10 := Lib.hid (show Byt w10.drew _ _ from hv10)
                    have HCL := Lib.hid (show w10.drew.cell? _ = _ from hcl)
                    have HBL := Lib.hid (show Byt w10.drew _ _ from hbl)
                    have HK10 := Lib.hid hk10.drew
                    clear hred hv10 hk10 N10 hcl hbl HK9
                    go_wp2_with fail
                    refine wp_region_R (R := fun x y => x = y) (by kernel_rfl) (fun _ => rfl) (fun h k => h.trans k) (by kernel_rfl) (fun d v c a w h => by cases d <;> exact h)
                      [(0, false), (1, false), (2, false), (3, false), (4, false), (5, false), (6, false), (7, false), (8, false), (9, false), (10, false), (11, false)] rfl (by kernel_rfl) (by kernel_rfl) ?_
                    simp only [sel, List.getElem?_toArray, List.getElem?_cons_succ, List.getElem?_cons_zero]
                    generalize w10.drew = wd at *
                    generalize readB s q = rl at *
                    iterate 4 (refine sch_take ?_ rfl ?_ ?_; rotate_left; (focus (intro u hu; go_simp <;> rfl)); simp only [Act.put, List.setIfInBounds_toArray, List.set_cons_zero, List.set_cons_succ])
                    (refine sch_take ?_ rfl ?_ ?_; rotate_left; (focus (intro u hu; have tx := hu ▸ stext_of HV10.out; clear hu; go_simp <;> rfl)); simp only [Act.put, List.setIfInBounds_toArray, List.set_cons_zero, List.set_cons_succ])
                    iterate 3 (refine sch_take ?_ rfl ?_ ?_; rotate_left; (focus (intro u hu; go_simp <;> rfl)); simp only [Act.put, List.setIfInBounds_toArray, List.set_cons_zero, List.set_cons_succ])
                    (refine sch_take ?_ rfl ?_ ?_; rotate_left; (focus (intro u hu; have cx := hu ▸ HCL.out; clear hu; go_simp <;> rfl)); simp only [Act.put, List.setIfInBounds_toArray, List.set_cons_zero, List.set_cons_succ])
                    (refine sch_take ?_ rfl ?_ ?_; rotate_left; (focus (intro u hu; have tx := hu ▸ stext_of HBL.out; clear hu; go_simp <;> rfl)); simp only [Act.put, List.setIfInBounds_toArray, List.set_cons_zero, List.set_cons_succ])
                    iterate 2 (refine sch_take ?_ rfl ?_ ?_; rotate_left; (focus (intro u hu; go_simp <;> rfl)); simp only [Act.put, List.setIfInBounds_toArray, List.set_cons_zero, List.set_cons_succ])
                    refine sch_nil ?_
                    go_wp2_with fail
                    go_roundw
                    case rel => exact ⟨k + 1, s, S, by omega, by go_num, HS9.out, HF9.out, HK10.out⟩
                    case measure => simp [intOf]; omega
            · have hkn : ¬ (k : Int) < (len : Int) := by omega
              obtain ⟨d0, d1, d2⟩ := HKP.out.cbox.cells
              go_wp2_with fail
              refine (KC.out _ (HK.out.below HBW.out)).mono ?_
              rintro e w5 ⟨v5, rfl, hr5, hl5, hb5⟩
              have HK5 := Lib.hid (HKP.out.below hb5)
              have HR5 := Lib.hid hr5
              have HN5 : Hid (∀ x, v5.ownBlock = some x → ¬ S x) := fun x hx hs => by have := hl5 x hx; have := HKP.out.d.lt x hs; omega
              have HCRS : Hid (∀ i, i < n → readB (crashS s keep torn bytes) i = sectB s.B i ∨ readB (crashS s keep torn bytes) i = readB s i ∨ (Spec s torn i ∧ ∃ k : Nat, bytes = (k : Int) ∧ k ≤ 512 ∧ (readB (crashS s keep torn bytes) i).take k = (readB s i).take k ∧ (readB (crashS s keep torn bytes) i).drop k = (sectB s.B i).drop k)) := fun i hi => crash_sect HKP.out.d.ok keep torn bytes i (by rw [HSEC.out]; exact hi)
              have HS3 : Hid (secs (crashS s keep torn bytes) = n) := (secs_settle _ HKP.out.d.ok).trans HSEC.out
              have HF3 : Hid ((crashS s keep torn bytes).F = none) := rfl
              have HK3 : Hid (keysC (crashS s keep torn bytes).C = []) := rfl
              have CRS := Lib.hid (crash_is w5 S g s v5 keep torn bytes HK5.out.d HR5.out HN5.out)
              unfold crashV at CRS
              clear hr5 hl5 hb5 d0 d1 d2 HKP HR5 HN5
              generalize crashS s keep torn bytes = s3 at *
              go_wp2_with fail
              refine CRS.out.mono ?_
              intro e w6 hdone
              obtain ⟨rfl, S6, hk6, _, _⟩ := HK5.out.done hdone
              have HK6 := Lib.hid hk6
              have CCH := Lib.hid (cached_is w6 S6 g s3 hk6.d)
              rw [HK3.out] at CCH
              clear hdone hk6 CRS HK5
              go_wp2_with fail
              refine CCH.out.mono ?_
              rintro e w7 ⟨v7, rfl, hown7, hb7⟩
              have HK7 := Lib.hid (HK6.out.below hb7)
              obtain ⟨A7, n7, c7, rfl, N7, _, _⟩ := (ints_rowz hown7).form
              obtain rfl : n7 = 0 := N7.out
              have hcrash := HCRS.out
              clear hown7 hb7 N7 HK6 CCH
              go_wp2_with fail
              go_loopw [16, 17] (fun t i wr => Rel3 w0 S6 g fb lb w.heap.size n s s3 (.slice A2 m2 c2) torn bytes t i wr) (fun _ i _ => n - (intOf i).toNat)
              case atStart => exact ⟨0, 0, by omega, rfl, rfl, by omega, fun h => by omega, HK7.out⟩
              case round =>
                clear HK7
                obtain ⟨k, c, hk, rfl, rfl, hc1, hcs, hkp⟩ := hrel
                have HKP := Lib.hid hkp
                clear hkp
                by_cases hkn' : k < n
                · have hkn2 : (k : Int) < (n : Int) := by omega
                  go_wp2_with fail
                  refine (read0 HKP.out.d HF3.out (by rw [HS3.out]; exact hkn')).mono ?_
                  intro e w10 hred
                  obtain ⟨v10, rfl, hv10, hk10⟩ := HKP.out.red hred
                  obtain ⟨Ax, nx, cx, rfl, Nx, hnx, hcx⟩ := hv10.form
                  have hl3 : (readB s3 k).length = 512 := readB_len HKP.out.d.ok (by rw [HS3.out]; exact hkn')
                  obtain rfl : nx = 512 := Nx.out.trans hl3
                  obtain ⟨Af, cf, hcf, hbf, _, hf1, hf2⟩ := hk10.f.cell hkn'
                  obtain ⟨Al, cl, hcl, hbl, _, hl1, hl2⟩ := hk10.l.cell hkn'
                  have HVX := Lib.hid (show Byt w10.drew _ _ from hv10)
                  have HCF := Lib.hid (show w10.drew.cell? _ = _ from hcf)
                  have HBF := Lib.hid (show Byt w10.drew _ _ from hbf)
                  have HCL := Lib.hid (show w10.drew.cell? _ = _ from hcl)
                  have HBL := Lib.hid (show Byt w10.drew _ _ from hbl)
                  have HKD := Lib.hid hk10.drew
                  have HCASE := Lib.hid (hcrash k hkn')
                  clear hred hv10 hk10 hcf hbf hcl hbl Nx
                  generalize hrx : readB s3 k = rx at *
                  generalize hrf : sectB s.B k = rf at *
                  generalize hrl : readB s k = rl at *
                  clear hrx hrf hrl
                  by_cases hxf : rx = rf
                  · subst hxf
                    go_wp2_with fail
                    refine wp_region_R (R := fun x y => x = y) (by kernel_rfl) (fun _ => rfl) (fun h k => h.trans k) (by kernel_rfl) (fun d v c a w h => by cases d <;> exact h)
                      [(0, false), (1, false), (2, false), (3, false), (4, false), (5, false), (6, false), (7, false), (8, false), (9, false), (10, false), (11, false), (12, false), (13, false), (14, false), (15, false), (16, false), (17, false)] rfl (by kernel_rfl) (by kernel_rfl) ?_
                    simp only [sel, List.getElem?_toArray, List.getElem?_cons_succ, List.getElem?_cons_zero]
                    generalize w10.drew = wd at *
                    (refine sch_take ?_ rfl ?_ ?_; rotate_left; (focus (intro u hu; go_simp <;> rfl)); simp only [Act.put, List.setIfInBounds_toArray, List.set_cons_zero, List.set_cons_succ])
                    (refine sch_take ?_ rfl ?_ ?_; rotate_left; (focus (intro u hu; have tx := hu ▸ stext_of HVX.out; clear hu; go_simp <;> rfl)); simp only [Act.put, List.setIfInBounds_toArray, List.set_cons_zero, List.set_cons_succ])
                    iterate 3 (refine sch_take ?_ rfl ?_ ?_; rotate_left; (focus (intro u hu; go_simp <;> rfl)); simp only [Act.put, List.setIfInBounds_toArray, List.set_cons_zero, List.set_cons_succ])
                    (refine sch_take ?_ rfl ?_ ?_; rotate_left; (focus (intro u hu; have cx := hu ▸ HCF.out; clear hu; go_simp <;> rfl)); simp only [Act.put, List.setIfInBounds_toArray, List.set_cons_zero, List.set_cons_succ])
                    (refine sch_take ?_ rfl ?_ ?_; rotate_left; (focus (intro u hu; have tx := hu ▸ stext_of HBF.out; clear hu; go_simp <;> rfl)); simp only [Act.put, List.setIfInBounds_toArray, List.set_cons_zero, List.set_cons_succ])
                    iterate 2 (refine sch_take ?_ rfl ?_ ?_; rotate_left; (focus (intro u hu; go_simp <;> rfl)); simp only [Act.put, List.setIfInBounds_toArray, List.set_cons_zero, List.set_cons_succ])
                    refine sch_idle rfl ?_
                    simp only [Act.put, List.setIfInBounds_toArray, List.set_cons_zero, List.set_cons_succ]
                    refine sch_idle rfl ?_
                    simp only [Act.put, List.setIfInBounds_toArray, List.set_cons_zero, List.set_cons_succ]
                    refine sch_idle rfl ?_
                    simp only [Act.put, List.setIfInBounds_toArray, List.set_cons_zero, List.set_cons_succ]
                    refine sch_idle rfl ?_
                    simp only [Act.put, List.setIfInBounds_toArray, List.set_cons_zero, List.set_cons_succ]
                    refine sch_idle rfl ?_
                    simp only [Act.put, List.setIfInBounds_toArray, List.set_cons_zero, List.set_cons_succ]
                    refine sch_idle rfl ?_
                    simp only [Act.put, List.setIfInBounds_toArray, List.set_cons_zero, List.set_cons_succ]
                    refine sch_idle rfl ?_
                    simp only [Act.put, List.setIfInBounds_toArray, List.set_cons_zero, List.set_cons_succ]
                    refine sch_idle rfl ?_
                    simp only [Act.put, List.setIfInBounds_toArray, List.set_cons_zero, List.set_cons_succ]
                    (refine sch_take ?_ rfl ?_ ?_; rotate_left; (focus (intro u hu; go_simp <;> rfl)); simp only [Act.put, List.setIfInBounds_toArray, List.set_cons_zero, List.set_cons_succ])
                    refine sch_nil ?_
                    go_wp2_with fail
                    go_roundw
                    case rel => exact ⟨k + 1, c, by omega, by go_num, rfl, hc1, fun h => by obtain ⟨i0, h0, h1⟩ := hcs h; exact ⟨i0, by omega, h1⟩, HKD.out⟩
                    case measure => simp [intOf]; omega
                  · by_cases hxl : rx = rl
                    · subst hxl
                      go_wp2_with fail
                      refine wp_region_R (R := fun x y => x = y) (by kernel_rfl) (fun _ => rfl) (fun h k => h.trans k) (by kernel_rfl) (fun d v c a w h => by cases d <;> exact h)
                        [(0, false), (1, false), (2, false), (3, false), (4, false), (5, false), (6, false), (7, false), (8, false), (9, false), (10, false), (11, false), (12, false), (13, false), (14, false), (15, false), (16, false), (17, false)] rfl (by kernel_rfl) (by kernel_rfl) ?_
                      simp only [sel, List.getElem?_toArray, List.getElem?_cons_succ, List.getElem?_cons_zero]
                      generalize w10.drew = wd at *
                      (refine sch_take ?_ rfl ?_ ?_; rotate_left; (focus (intro u hu; go_simp <;> rfl)); simp only [Act.put, List.setIfInBounds_toArray, List.set_cons_zero, List.set_cons_succ])
                      (refine sch_take ?_ rfl ?_ ?_; rotate_left; (focus (intro u hu; have tx := hu ▸ stext_of HVX.out; clear hu; go_simp <;> rfl)); simp only [Act.put, List.setIfInBounds_toArray, List.set_cons_zero, List.set_cons_succ])
                      iterate 3 (refine sch_take ?_ rfl ?_ ?_; rotate_left; (focus (intro u hu; go_simp <;> rfl)); simp only [Act.put, List.setIfInBounds_toArray, List.set_cons_zero, List.set_cons_succ])
                      (refine sch_take ?_ rfl ?_ ?_; rotate_left; (focus (intro u hu; have cx := hu ▸ HCF.out; clear hu; go_simp <;> rfl)); simp only [Act.put, List.setIfInBounds_toArray, List.set_cons_zero, List.set_cons_succ])
                      (refine sch_take ?_ rfl ?_ ?_; rotate_left; (focus (intro u hu; have tx := hu ▸ stext_of HBF.out; clear hu; go_simp <;> rfl)); simp only [Act.put, List.setIfInBounds_toArray, List.set_cons_zero, List.set_cons_succ])
                      refine sch_take _ rfl (fun u hu => exec_ne _ _ _ _ rfl _ _ rfl rfl hxf) ?_
                      simp only [Act.put, List.setIfInBounds_toArray, List.set_cons_zero, List.set_cons_succ]
                      iterate 2 (refine sch_take ?_ rfl ?_ ?_; rotate_left; (focus (intro u hu; go_simp <;> rfl)); simp only [Act.put, List.setIfInBounds_toArray, List.set_cons_zero, List.set_cons_succ])
                      (refine sch_take ?_ rfl ?_ ?_; rotate_left; (focus (intro u hu; have tx := hu ▸ stext_of HVX.out; clear hu; go_simp <;> rfl)); simp only [Act.put, List.setIfInBounds_toArray, List.set_cons_zero, List.set_cons_succ])
                      iterate 3 (refine sch_take ?_ rfl ?_ ?_; rotate_left; (focus (intro u hu; go_simp <;> rfl)); simp only [Act.put, List.setIfInBounds_toArray, List.set_cons_zero, List.set_cons_succ])
                      (refine sch_take ?_ rfl ?_ ?_; rotate_left; (focus (intro u hu; have cx := hu ▸ HCL.out; clear hu; go_simp <;> rfl)); simp only [Act.put, List.setIfInBounds_toArray, List.set_cons_zero, List.set_cons_succ])
                      (refine sch_take ?_ rfl ?_ ?_; rotate_left; (focus (intro u hu; have tx := hu ▸ stext_of HBL.out; clear hu; go_simp <;> rfl)); simp only [Act.put, List.setIfInBounds_toArray, List.set_cons_zero, List.set_cons_succ])
                      iterate 2 (refine sch_take ?_ rfl ?_ ?_; rotate_left; (focus (intro u hu; go_simp <;> rfl)); simp only [Act.put, List.setIfInBounds_toArray, List.set_cons_zero, List.set_cons_succ])
                      refine sch_nil ?_
                      go_wp2_with fail
                      go_roundw
                      case rel => exact ⟨k + 1, c, by omega, by go_num, rfl, hc1, fun h => by obtain ⟨i0, h0, h1⟩ := hcs h; exact ⟨i0, by omega, h1⟩, HKD.out⟩
                      case measure => simp [intOf]; omega
                    · obtain ⟨hspec, kk, hkk, hk512, ht1, ht2⟩ := (HCASE.out.resolve_left hxf).resolve_left hxl
                      obtain rfl : c = 0 := by
                        rcases Nat.lt_or_ge c 1 with h | h
                        · omega
                        · obtain ⟨i0, h0, h1⟩ := hcs (by omega)
                          have := hspec.one h1
                          omega
                      have hk0 : 0 < kk := by
                        rcases Nat.eq_zero_or_pos kk with h | h
                        · subst h
                          exact absurd ht2 hxf
                        · exact h
                      subst hkk
                      go_wp2_with fail
                      refine wp_region_R (R := fun x y => x = y) (by kernel_rfl) (fun _ => rfl) (fun h k => h.trans k) (by kernel_rfl) (fun d v c a w h => by cases d <;> exact h)
                        [(0, false), (1, false), (2, false), (3, false), (4, false), (5, false), (6, false), (7, false), (8, false), (9, false), (10, false), (11, false), (12, false), (13, false), (14, false), (15, false), (16, false), (17, false)] rfl (by kernel_rfl) (by kernel_rfl) ?_
                      simp only [sel, List.getElem?_toArray, List.getElem?_cons_succ, List.getElem?_cons_zero]
                      generalize w10.drew = wd at *
                      (refine sch_take ?_ rfl ?_ ?_; rotate_left; (focus (intro u hu; go_simp <;> rfl)); simp only [Act.put, List.setIfInBounds_toArray, List.set_cons_zero, List.set_cons_succ])
                      (refine sch_take ?_ rfl ?_ ?_; rotate_left; (focus (intro u hu; have tx := hu ▸ stext_of HVX.out; clear hu; go_simp <;> rfl)); simp only [Act.put, List.setIfInBounds_toArray, List.set_cons_zero, List.set_cons_succ])
                      iterate 3 (refine sch_take ?_ rfl ?_ ?_; rotate_left; (focus (intro u hu; go_simp <;> rfl)); simp only [Act.put, List.setIfInBounds_toArray, List.set_cons_zero, List.set_cons_succ])
                      (refine sch_take ?_ rfl ?_ ?_; rotate_left; (focus (intro u hu; have cx := hu ▸ HCF.out; clear hu; go_simp <;> rfl)); simp only [Act.put, List.setIfInBounds_toArray, List.set_cons_zero, List.set_cons_succ])
                      (refine sch_take ?_ rfl ?_ ?_; rotate_left; (focus (intro u hu; have tx := hu ▸ stext_of HBF.out; clear hu; go_simp <;> rfl)); simp only [Act.put, List.setIfInBounds_toArray, List.set_cons_zero, List.set_cons_succ])
                      refine sch_take _ rfl (fun u hu => exec_ne _ _ _ _ rfl _ _ rfl rfl hxf) ?_
                      simp only [Act.put, List.setIfInBounds_toArray, List.set_cons_zero, List.set_cons_succ]
                      iterate 2 (refine sch_take ?_ rfl ?_ ?_; rotate_left; (focus (intro u hu; go_simp <;> rfl)); simp only [Act.put, List.setIfInBounds_toArray, List.set_cons_zero, List.set_cons_succ])
                      (refine sch_take ?_ rfl ?_ ?_; rotate_left; (focus (intro u hu; have tx := hu ▸ stext_of HVX.out; clear hu; go_simp <;> rfl)); simp only [Act.put, List.setIfInBounds_toArray, List.set_cons_zero, List.set_cons_succ])
                      iterate 3 (refine sch_take ?_ rfl ?_ ?_; rotate_left; (focus (intro u hu; go_simp <;> rfl)); simp only [Act.put, List.setIfInBounds_toArray, List.set_cons_zero, List.set_cons_succ])
                      (refine sch_take ?_ rfl ?_ ?_; rotate_left; (focus (intro u hu; have cx := hu ▸ HCL.out; clear hu; go_simp <;> rfl)); simp only [Act.put, List.setIfInBounds_toArray, List.set_cons_zero, List.set_cons_succ])
                      (refine sch_take ?_ rfl ?_ ?_; rotate_left; (focus (intro u hu; have tx := hu ▸ stext_of HBL.out; clear hu; go_simp <;> rfl)); simp only [Act.put, List.setIfInBounds_toArray, List.set_cons_zero, List.set_cons_succ])
                      refine sch_take _ rfl (fun u hu => exec_ne _ _ _ _ rfl _ _ rfl rfl hxl) ?_
                      simp only [Act.put, List.setIfInBounds_toArray, List.set_cons_zero, List.set_cons_succ]
                      (refine sch_take ?_ rfl ?_ ?_; rotate_left; (focus (intro u hu; go_simp <;> rfl)); simp only [Act.put, List.setIfInBounds_toArray, List.set_cons_zero, List.set_cons_succ])
                      refine sch_nil ?_
                      obtain ⟨e0, e1, e2⟩ := HKD.out.cbox.cells
                      obtain ⟨A1, n1, c1, rx1, bx1, _, _, _⟩ := HVX.out.uptorun 27 elemByte sizeByte kk hk512 .i64
                      obtain ⟨A2', n2, c2', rx2, bx2, _, _, _⟩ := HVX.out.cutrun 27 elemByte sizeByte kk hk512 .i64
                      obtain ⟨A3, n3, c3, rl1, bl1, _, _, _⟩ := HBL.out.uptorun 27 elemByte sizeByte kk hk512 .i64
                      obtain ⟨A4, n4, c4, rf1, bf1, _, _, _⟩ := HBF.out.cutrun 27 elemByte sizeByte kk hk512 .i64
                      rw [ht1] at bx1
                      rw [ht2] at bx2
                      have HX1 := Lib.hid (show Byt wd.drew _ _ from bx1)
                      have HX2 := Lib.hid (show Byt wd.drew _ _ from bx2)
                      have HL1 := Lib.hid (show Byt wd.drew _ _ from bl1)
                      have HF2 := Lib.hid (show Byt wd.drew _ _ from bf1)
                      have HCL1 := Lib.hid (show wd.drew.cell? _ = _ from HCL.out)
                      have HCF1 := Lib.hid (show wd.drew.cell? _ = _ from HCF.out)
                      have HKD2 := Lib.hid HKD.out.drew
                      generalize rl.take kk = rlk at *
                      generalize rf.drop kk = rfk at *
                      clear bx1 bx2 bl1 bf1
                      have hm1 : max (0 : Int) (kk : Int) = (kk : Int) := by omega
                      have hm2 : min (kk : Int) 512 = (kk : Int) := by omega
                      go_wp2_with fail
                      refine wp_region_R (R := fun x y => x = y) (by kernel_rfl) (fun _ => rfl) (fun h k => h.trans k) (by kernel_rfl) (fun d v c a w h => by cases d <;> exact h)
                        [(0, false), (1, false), (2, false), (3, false), (4, false), (5, false), (6, false), (7, false), (8, false), (9, false), (10, false), (11, false), (12, false), (13, false), (14, false), (15, false), (16, false), (17, false), (18, false), (19, false), (20, false), (21, false), (22, false), (23, false), (24, false), (25, false)] rfl (by kernel_rfl) (by kernel_rfl) ?_
                      simp only [sel, List.getElem?_toArray, List.getElem?_cons_succ, List.getElem?_cons_zero]
                      generalize wd.drew = we at *
                      iterate 2 (refine sch_take ?_ rfl ?_ ?_; rotate_left; (focus (intro u hu; go_simp <;> rfl)); simp only [Act.put, List.setIfInBounds_toArray, List.set_cons_zero, List.set_cons_succ])
                      (refine sch_take ?_ rfl ?_ ?_; rotate_left; (focus (intro u hu; clear hu; go_simp <;> rfl)); simp only [Act.put, List.setIfInBounds_toArray, List.set_cons_zero, List.set_cons_succ])
                      (refine sch_take ?_ rfl ?_ ?_; rotate_left; (focus (intro u hu; have tx := hu ▸ stext_of HX1.out; clear hu; go_simp <;> rfl)); simp only [Act.put, List.setIfInBounds_toArray, List.set_cons_zero, List.set_cons_succ])
                      iterate 3 (refine sch_take ?_ rfl ?_ ?_; rotate_left; (focus (intro u hu; go_simp <;> rfl)); simp only [Act.put, List.setIfInBounds_toArray, List.set_cons_zero, List.set_cons_succ])
                      (refine sch_take ?_ rfl ?_ ?_; rotate_left; (focus (intro u hu; have cx := hu ▸ HCL1.out; clear hu; go_simp <;> rfl)); simp only [Act.put, List.setIfInBounds_toArray, List.set_cons_zero, List.set_cons_succ])
                      (refine sch_take ?_ rfl ?_ ?_; rotate_left; (focus (intro u hu; go_simp <;> rfl)); simp only [Act.put, List.setIfInBounds_toArray, List.set_cons_zero, List.set_cons_succ])
                      (refine sch_take ?_ rfl ?_ ?_; rotate_left; (focus (intro u hu; clear hu; go_simp <;> rfl)); simp only [Act.put, List.setIfInBounds_toArray, List.set_cons_zero, List.set_cons_succ])
                      (refine sch_take ?_ rfl ?_ ?_; rotate_left; (focus (intro u hu; have tx := hu ▸ stext_of HL1.out; clear hu; go_simp <;> rfl)); simp only [Act.put, List.setIfInBounds_toArray, List.set_cons_zero, List.set_cons_succ])
                      iterate 5 (refine sch_take ?_ rfl ?_ ?_; rotate_left; (focus (intro u hu; go_simp <;> rfl)); simp only [Act.put, List.setIfInBounds_toArray, List.set_cons_zero, List.set_cons_succ])
                      (refine sch_take ?_ rfl ?_ ?_; rotate_left; (focus (intro u hu; have tx := hu ▸ stext_of HX2.out; clear hu; go_simp <;> rfl)); simp only [Act.put, List.setIfInBounds_toArray, List.set_cons_zero, List.set_cons_succ])
                      iterate 3 (refine sch_take ?_ rfl ?_ ?_; rotate_left; (focus (intro u hu; go_simp <;> rfl)); simp only [Act.put, List.setIfInBounds_toArray, List.set_cons_zero, List.set_cons_succ])
                      (refine sch_take ?_ rfl ?_ ?_; rotate_left; (focus (intro u hu; have cx := hu ▸ HCF1.out; clear hu; go_simp <;> rfl)); simp only [Act.put, List.setIfInBounds_toArray, List.set_cons_zero, List.set_cons_succ])
                      iterate 2 (refine sch_take ?_ rfl ?_ ?_; rotate_left; (focus (intro u hu; go_simp <;> rfl)); simp only [Act.put, List.setIfInBounds_toArray, List.set_cons_zero, List.set_cons_succ])
                      (refine sch_take ?_ rfl ?_ ?_; rotate_left; (focus (intro u hu; have tx := hu ▸ stext_of HF2.out; clear hu; go_simp <;> rfl)); simp only [Act.put, List.setIfInBounds_toArray, List.set_cons_zero, List.set_cons_succ])
                      iterate 2 (refine sch_take ?_ rfl ?_ ?_; rotate_left; (focus (intro u hu; go_simp <;> rfl)); simp only [Act.put, List.setIfInBounds_toArray, List.set_cons_zero, List.set_cons_succ])
                      refine sch_nil ?_
                      go_wp2_with fail
                      go_roundw
                      case rel => exact ⟨k + 1, 1, by omega, by go_num, rfl, by omega, fun _ => ⟨k, by omega, hspec⟩, HKD2.out⟩
                      case measure => simp [intOf]; omega
                · have hkn2 : ¬ (k : Int) < (n : Int) := by omega
                  have hc1' : (c : Int) ≤ 1 := by omega
                  clear hcrash
                  go_wp2_with fail
                  go_ret
                  exact ⟨rfl, HB0.out.trans (HKP.out.bel.mono (Nat.le_of_lt HC0.out))⟩

theorem walk (w : World) (x : Int) (v : Value) (len : Nat) (f : Nat → ActD) (vk : Value) (keep : List Bool) (torn bytes : Int) (_hx : -9223372036854775808 ≤ x ∧ x ≤ 9223372036854775807) (hv : Acts w v len f) (hk : Rowz w vk (keep.map Value.bool)) (_ht : -9223372036854775808 ≤ torn ∧ torn ≤ 9223372036854775807) (hb : -9223372036854775808 ≤ bytes ∧ bytes ≤ 9223372036854775807) :
    Calls Try.prog 6 #[.int .i64 x, v, .agg (crashV vk torn bytes)] w fun e w' => e = .returned (.bool true) ∧ Below w.heap.size w w' := by
  by_cases h : 40 < x ∨ ¬ smallA len f ∨ 100 < keep.length
  · exact walk_great w x v len f vk keep torn bytes hv hk h
  · have h1 : smallA len f := Classical.byContradiction fun h' => h (.inr (.inl h'))
    exact walk_few w x v len f vk keep torn bytes hv hk hb (by omega) h1 (by omega)

set_option maxRecDepth 100000 in
theorem lifted (os : Os) (started : os.Started) (H : Type) (enc : TypeId × Value → H) :
    ReturnsInHanded {} Try.checked os 6 .any (Rows.sectorCrashSpec.pre6 enc Try.prog Try.f6 Rows.sectorCrashRow.domain false) (Rows.sectorCrashSpec.post enc Try.prog Try.f6 false true false false) := by
  refine returnsInHanded_of_change (C := Try.checked) ownKnobs started (by kernel_rfl) Try.func6
    (ChangeSpec.witness6 (enc := enc) (C := Try.checked) false ⟨#[], #[.int .i64 0, .slice none 0 0, .agg (crashV (.slice none 0 0) 0 0)], []⟩ 8 (by kernel_rfl) (by kernel_rfl) (by kernel_rfl) (by kernel_rfl)) ?_
  intro W base args ds gs before hval0 hW hcnd _
  have hval : ∀ (j : Nat) t v, Try.f6.params[j]? = some t → args[j]? = some v → Value.okWide Try.prog W .any base t v := hval0
  have hW' := hW
  obtain ⟨p, q, hA0, hV, rfl, hfz, hnd⟩ := hW
  have hA : DataW.TrodAll enc Try.prog W 0 (fun _ => true) true Try.f6.params.toList args.toList ds p := hA0
  rw [Try.params6] at hA hval
  obtain ⟨v0, vs0, d0, ds0, p0, q0, hargs, rfl, rfl, h0, r0⟩ := trodAll_cons hA
  obtain ⟨v1, vs1, d1, ds1, p1, q1, rfl, rfl, rfl, h1, r1⟩ := trodAll_cons r0
  obtain ⟨v2, vs2, d2, ds2, p2, q2, rfl, rfl, rfl, h2, r2⟩ := trodAll_cons r1
  obtain ⟨rfl, rfl, rfl⟩ := trodAll_nil r2
  obtain rfl : args = #[v0, v1, v2] := by cases args; simp_all
  obtain ⟨rfl, rfl⟩ := trodVars_none hV
  obtain ⟨a0, rfl, rfl, rfl, w0⟩ := open_int Try.underlying3 (hval 0 3 v0 rfl rfl) h0
  have b0 := open_i64 w0
  have k1 := h1
  have lt1 : ∀ x ∈ p1, x.block < W.heap.size := by obtain ⟨m, hm⟩ := k1; exact DataW.trod_lt m _ _ _ hm
  obtain ⟨l1, f1, b1⟩ := open_acts (hval 1 36 v1 rfl rfl) h1
  have k2 := h2
  have lt2 : ∀ x ∈ p2, x.block < W.heap.size := by obtain ⟨m, hm⟩ := k2; exact DataW.trod_lt m _ _ _ hm
  obtain ⟨vk2, kp2, to2, by2, rfl, b2, bt2, bb2⟩ := open_crash (hval 2 43 v2 rfl rfl) h2
  clear hA0 hval0
  refine (walk W a0 v1 l1 f1 vk2 kp2 to2 by2 b0 b1 b2 bt2 bb2).mono fun e W' ⟨he, bel⟩ => ?_
  subst he
  exact ⟨_, rfl, _, _, _, [], _, [], hW', trodAll_mk1 (shut_bool Try.underlying4 _), (trodAll_cons_mk (shut_int Try.underlying3 w0) (trodAll_cons_mk (Below.trod laidOuts (by kernel_rfl) (of_decide_eq_true (by kernel_rfl)) k1 bel lt1) (trodAll_cons_mk (Below.trod laidOuts (by kernel_rfl) (of_decide_eq_true (by kernel_rfl)) k2 bel lt2) trodAll_mk0))), rfl, bel.frame _, fun h => by cases h⟩

theorem over : Rows.sectorCrashRow.holds Try.pinned (OpenSpec.ofChange Rows.sectorCrashSpec) :=
  OpenClaim.holds_of_wide 6 Try.f6 rfl rfl rfl rfl rfl rfl rfl ⟨rfl, rfl, rfl, rfl, rfl⟩ rfl rfl rfl rfl rfl (by kernel_rfl) Try.func6 (by kernel_rfl)
    (of_decide_eq_true (by kernel_rfl)) (by unfold Func.isWrapper; first | (rw [if_pos (by decide +kernel)]; kernel_rfl) | (rw [if_neg (by decide +kernel)]; exact ⟨rfl, rfl⟩))
    (fun os started H enc _ => lifted os started H enc)

theorem proved : Rows.SectorCrashSaid := over
#print axioms proved
end Go.Proofs.Ytlikbnhplfchiaa.sectorCrash
