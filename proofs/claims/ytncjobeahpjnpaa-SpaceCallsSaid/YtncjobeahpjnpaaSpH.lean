/-
  Package space's Both by its contract. Conditions: at most 2^46 bools.
-/
import Derived.Test.YtncjobeahpjnpaaSpG
namespace Go.Proofs.Ytncjobeahpjnpaa
open Go.RowKit Go.Shelf Go.Maps
set_option maxRecDepth 100000
attribute [local go_sem] Oper.semAt_some

def ixs {l : List Bool} {u : Bool} (pre : List (Ix l u)) : List Nat := pre.map fun x => x.1
theorem ixs_snoc {l : List Bool} {u : Bool} (pre : List (Ix l u)) (x : Ix l u) : ixs (pre ++ [x]) = ixs pre ++ [x.1] := by simp [ixs]
theorem ixs_all (l : List Bool) (u : Bool) (k : Nat) : ixs (ixF l u k) = idxN l u k := ixF_val l u k
def setAll (l : List Bool) (ns : List Nat) : List Bool := ns.foldl (fun l n => l.set n true) l
theorem setAll_snoc (l : List Bool) (ns : List Nat) (n : Nat) : setAll l (ns ++ [n]) = (setAll l ns).set n true := by simp [setAll]
theorem setAll_len (l : List Bool) (ns : List Nat) : (setAll l ns).length = l.length := by
  induction ns generalizing l with
  | nil => rfl
  | cons n ns ih =>
    have := ih (l.set n true)
    rw [List.length_set] at this
    exact this
theorem setAll_get (l : List Bool) (ns : List Nat) (i : Nat) (h : i < l.length) : (setAll l ns)[i]? = if i ∈ ns then some true else l[i]? := by
  induction ns generalizing l with
  | nil => simp [setAll]
  | cons n ns ih =>
    have := ih (l.set n true) (by rw [List.length_set]; exact h)
    show (setAll (l.set n true) ns)[i]? = _
    rw [this]
    by_cases hi : i ∈ ns
    · rw [if_pos hi, if_pos (List.mem_cons_of_mem _ hi)]
    · rw [if_neg hi, List.getElem?_set]
      by_cases e : n = i
      · subst e
        rw [if_pos rfl, if_pos h, if_pos (by simp)]
      · rw [if_neg e, if_neg (fun h2 => (List.mem_cons.1 h2).elim (fun h3 => e h3.symm) hi)]
theorem setAll_or {l m : List Bool} (h : l.length = m.length) : setAll l (idxN m true m.length) = spOr l m := by
  apply List.ext_getElem?
  intro i
  unfold spOr
  by_cases hi : i < l.length
  · rw [setAll_get l _ i hi, List.getElem?_zipWith, List.getElem?_eq_getElem hi, List.getElem?_eq_getElem (show i < m.length by omega)]
    by_cases hm : m[i]'(by omega) = true
    · rw [if_pos (idx_mem.2 ⟨by omega, by rw [List.getElem?_eq_getElem (show i < m.length by omega), hm]⟩), hm]
      simp
    · rw [if_neg (fun h2 => hm (by have := (idx_mem.1 h2).2; rw [List.getElem?_eq_getElem (show i < m.length by omega)] at this; exact Option.some.inj this))]
      have : m[i]'(by omega) = false := by simpa using hm
      rw [this]
      simp
  · rw [List.getElem?_eq_none (by rw [setAll_len]; omega), List.getElem?_eq_none (by simp; omega)]

/-- Two spaces' boxes, and one for the answer. -/
def BoSt (w W : World) (p : Int) (v : Value) (q : Int) (x : Value) (r : Int) (y : Value) : Prop := SpBox W w.heap.size p v ∧ SpBox W (w.heap.size + 1) q x ∧ SpBox W (w.heap.size + 2) r y
section
variable {w W W' : World} {p q r : Int} {v x y : Value}
theorem BoSt.same (h : BoSt w W p v q x r y) (hs : ∀ k, w.heap.size ≤ k → k < w.heap.size + 3 → W'.heap[k]? = W.heap[k]?) : BoSt w W' p v q x r y :=
  ⟨h.1.same (hs _ (by omega) (by omega)), h.2.1.same (hs _ (by omega) (by omega)), h.2.2.same (hs _ (by omega) (by omega))⟩
theorem BoSt.size (h : BoSt w W p v q x r y) : w.heap.size + 3 ≤ W.heap.size := h.2.2.lt
theorem BoSt.below (h : BoSt w W p v q x r y) (hb : Below W.heap.size W W') : BoSt w W' p v q x r y := h.same fun k _ hk => hb.block k (by have := h.size; omega)
theorem BoSt.turn {row : Option Nat} {B : Nat} (h : BoSt w W p v q x r y) (hB : w.heap.size + 3 ≤ B) (hg : W.grownBy W' row) (hr : ∀ r, row = some r → B ≤ r) : BoSt w W' p v q x r y :=
  h.same fun k _ hk => hg.block k (by have := h.size; omega) (by intro e; have := hr k e.symm; omega)
theorem BoSt.putA (h : BoSt w W p v q x r y) (v' : Value) : BoSt w (W.setCell ⟨w.heap.size, 1, none⟩ v') p v' q x r y :=
  ⟨h.1.put1 v', h.2.1.grown (grown_set _ _ _ _) (by omega), h.2.2.grown (grown_set _ _ _ _) (by omega)⟩
end
theorem bo_boxes (w : World) (p : Int) (v : Value) (q : Int) (x : Value) : ∃ w0, ((w.alloc (.cells #[.int .i64 p, v] 24)).alloc (.cells #[.int .i64 q, x] 24)).alloc (.cells #[.int .i64 0, .slice none 0 0] 24) = w0 ∧ Below w.heap.size w w0 ∧ w0.heap.size = w.heap.size + 3 ∧ BoSt w w0 p v q x 0 (.slice none 0 0) := by
  have e1 := World.size_alloc w (.cells #[.int .i64 p, v] 24)
  generalize hw1 : w.alloc (.cells #[.int .i64 p, v] 24) = w1 at *
  have e2 := World.size_alloc w1 (.cells #[.int .i64 q, x] 24)
  generalize hw2 : w1.alloc (.cells #[.int .i64 q, x] 24) = w2 at *
  have e3 := World.size_alloc w2 (.cells #[.int .i64 0, .slice none 0 0] 24)
  refine ⟨_, rfl, ?_, by omega, ?_, ?_, ?_⟩
  · exact ((hw1 ▸ below_new w _ : Below w.heap.size w w1).trans ((hw2 ▸ below_new w1 _ : Below w1.heap.size w1 w2).mono (by omega))).trans ((below_new w2 _).mono (by omega))
  · exact (((hw1 ▸ SBox.new w 24 [.int .i64 p, v] : SpBox w1 w.heap.size p v)).below (hw2 ▸ below_new w1 _)).alloc _
  · have := (hw2 ▸ SBox.new w1 24 [.int .i64 q, x] : SpBox w2 w1.heap.size q x)
    rw [e1] at this
    exact SBox.alloc this _
  · have := SBox.new w2 24 [.int .i64 0, .slice none 0 0]
    rw [e2, e1] at this
    exact this
set_option maxHeartbeats 2000000 in
theorem spBoth_not (w : World) (p q : Int) (v x : Value) (l m : List Bool) (hv : Boos w v l) (hx : Boos w x m) (hlen : l.length ≤ 70368744177664) (hlenm : m.length ≤ 70368744177664) (hno : ¬ spOk p l ∨ ¬ spOk q m ∨ p ≠ q) :
    Calls Try.prog 11 #[.agg #[.int .i64 p, v], .agg #[.int .i64 q, x]] w (SpOut w (0, [], 2)) := by
  obtain ⟨w0, hw0, hb0, hz, hT⟩ := bo_boxes w p v q x
  have HCA := Lib.hid fun W (h : Below w0.heap.size w0 W) => spcheck_any W p v l (hv.below (hb0.trans (h.mono hb0.size))) hlen
  have HCB := Lib.hid fun W (h : Below w0.heap.size w0 W) => spcheck_any W q x m (hx.below (hb0.trans (h.mono hb0.size))) hlenm
  have HV := Lib.hid hv
  have HX := Lib.hid hx
  obtain ⟨A, n, c, rfl, N, hnc, hcm⟩ := hv.form
  obtain ⟨A', n', c', rfl, N', hnc', hcm'⟩ := hx.form
  have HB0 := Lib.hid hb0
  have HZ := Lib.hid hz
  have HW0 := Lib.hid hw0
  have HT := Lib.hid hT
  clear hv hx hb0 hz hw0 hT
  by_cases hok : spOk p l
  · rw [if_pos hok] at HCA
    by_cases hom : spOk q m
    · rw [if_pos hom] at HCB
      have hpq : p ≠ q := hno.elim (fun h => absurd hok h) (fun h => h.elim (fun h => absurd hom h) id)
      have hpq' : (p == q) = false := by simpa using hpq
      clear hok hom hno
      go_enter Try.func11, Try.ntmps11
      go_wp2_with fail
      rw [HW0.out]
      refine (HCA.out w0 (Below.refl _ _)).mono ?_
      rintro e w1 ⟨rfl, hb1⟩
      have HBB1 : Hid (Below w0.heap.size w0 w1) := hb1
      have HT1 : Hid (BoSt w w1 p (.slice A n c) q (.slice A' n' c') 0 (.slice none 0 0)) := HT.out.below HBB1.out
      have HB1 : Hid (Below w.heap.size w w1) := HB0.out.trans (HBB1.out.mono HB0.out.size)
      have a0 := HT1.out.1.c0
      have a1 := HT1.out.1.c1
      have b0 := HT1.out.2.1.c0
      have b1 := HT1.out.2.1.c1
      clear hb1
      go_wp2_with fail
      refine (HCB.out w1 HBB1.out).mono ?_
      rintro e w2 ⟨rfl, hb2⟩
      have HBB2 : Hid (Below w0.heap.size w0 w2) := HBB1.out.trans (hb2.mono HBB1.out.size)
      have HT2 : Hid (BoSt w w2 p (.slice A n c) q (.slice A' n' c') 0 (.slice none 0 0)) := HT.out.below HBB2.out
      have HB2 : Hid (Below w.heap.size w w2) := HB0.out.trans (HBB2.out.mono HB0.out.size)
      have a0 := HT2.out.1.c0
      have a1 := HT2.out.1.c1
      have b0 := HT2.out.2.1.c0
      have b1 := HT2.out.2.1.c1
      clear hb2
      go_wp2_with (refine wpList_storeS HT2.out.2.2 spInfo rfl _ _ rfl rfl (ds := [.int .i64 0, .slice none 0 0]) rfl rfl (nil_one 0) ?_; intro w9 hR9 hg9 hz9)
      refine ret_s2 hR9 Try.underlying24 spInfo rfl rfl rfl _ rfl ?_
      exact ⟨_, rfl, OwnV.nil _ _ _, HB2.out.grown hg9 HB2.out.size (fun k e => by cases e; omega)⟩
    · rw [if_neg hom] at HCB
      clear hok hom hno
      go_enter Try.func11, Try.ntmps11
      go_wp2_with fail
      rw [HW0.out]
      refine (HCA.out w0 (Below.refl _ _)).mono ?_
      rintro e w1 ⟨rfl, hb1⟩
      have HBB1 : Hid (Below w0.heap.size w0 w1) := hb1
      have HT1 : Hid (BoSt w w1 p (.slice A n c) q (.slice A' n' c') 0 (.slice none 0 0)) := HT.out.below HBB1.out
      have HB1 : Hid (Below w.heap.size w w1) := HB0.out.trans (HBB1.out.mono HB0.out.size)
      have a0 := HT1.out.1.c0
      have a1 := HT1.out.1.c1
      have b0 := HT1.out.2.1.c0
      have b1 := HT1.out.2.1.c1
      clear hb1
      go_wp2_with fail
      refine (HCB.out w1 HBB1.out).mono ?_
      rintro e w2 ⟨rfl, hb2⟩
      have HBB2 : Hid (Below w0.heap.size w0 w2) := HBB1.out.trans (hb2.mono HBB1.out.size)
      have HT2 : Hid (BoSt w w2 p (.slice A n c) q (.slice A' n' c') 0 (.slice none 0 0)) := HT.out.below HBB2.out
      have HB2 : Hid (Below w.heap.size w w2) := HB0.out.trans (HBB2.out.mono HB0.out.size)
      have a0 := HT2.out.1.c0
      have a1 := HT2.out.1.c1
      have b0 := HT2.out.2.1.c0
      have b1 := HT2.out.2.1.c1
      clear hb2
      go_wp2_with (refine wpList_storeS HT2.out.2.2 spInfo rfl _ _ rfl rfl (ds := [.int .i64 0, .slice none 0 0]) rfl rfl (nil_one 0) ?_; intro w9 hR9 hg9 hz9)
      refine ret_s2 hR9 Try.underlying24 spInfo rfl rfl rfl _ rfl ?_
      exact ⟨_, rfl, OwnV.nil _ _ _, HB2.out.grown hg9 HB2.out.size (fun k e => by cases e; omega)⟩
  · rw [if_neg hok] at HCA
    clear hok hno
    go_enter Try.func11, Try.ntmps11
    go_wp2_with fail
    rw [HW0.out]
    refine (HCA.out w0 (Below.refl _ _)).mono ?_
    rintro e w1 ⟨rfl, hb1⟩
    have HBB1 : Hid (Below w0.heap.size w0 w1) := hb1
    have HT1 : Hid (BoSt w w1 p (.slice A n c) q (.slice A' n' c') 0 (.slice none 0 0)) := HT.out.below HBB1.out
    have HB1 : Hid (Below w.heap.size w w1) := HB0.out.trans (HBB1.out.mono HB0.out.size)
    have a0 := HT1.out.1.c0
    have a1 := HT1.out.1.c1
    have b0 := HT1.out.2.1.c0
    have b1 := HT1.out.2.1.c1
    clear hb1
    go_wp2_with (refine wpList_storeS HT1.out.2.2 spInfo rfl _ _ rfl rfl (ds := [.int .i64 0, .slice none 0 0]) rfl rfl (nil_one 0) ?_; intro w9 hR9 hg9 hz9)
    refine ret_s2 hR9 Try.underlying24 spInfo rfl rfl rfl _ rfl ?_
    exact ⟨_, rfl, OwnV.nil _ _ _, HB1.out.grown hg9 HB1.out.size (fun k e => by cases e; omega)⟩

set_option maxRecDepth 100000 in
set_option maxHeartbeats 4000000 in
theorem spBoth_ok (w : World) (p : Int) (v x : Value) (l m : List Bool) (hv : Boos w v l) (hx : Boos w x m) (hok : spOk p l) (hom : spOk p m) :
    Calls Try.prog 11 #[.agg #[.int .i64 p, v], .agg #[.int .i64 p, x]] w (SpOut w (p, spOr l m, 0)) := by
  have hlen : l.length ≤ 70368744177664 := by have := spOk_len hok; omega
  have hlenm : m.length ≤ 70368744177664 := by have := spOk_len hom; omega
  obtain ⟨w0, hw0, hb0, hz, hT⟩ := bo_boxes w p v p x
  have HCA := Lib.hid fun W (h : Below w0.heap.size w0 W) => spcheck_any W p v l (hv.below (hb0.trans (h.mono hb0.size))) hlen
  have HCB := Lib.hid fun W (h : Below w0.heap.size w0 W) => spcheck_any W p x m (hx.below (hb0.trans (h.mono hb0.size))) hlenm
  have HV := Lib.hid hv
  have HX := Lib.hid hx
  obtain ⟨A, n, c, rfl, N, hnc, hcm⟩ := hv.form
  obtain ⟨A', n', c', rfl, N', hnc', hcm'⟩ := hx.form
  have HB0 := Lib.hid hb0
  have HZ := Lib.hid hz
  have HW0 := Lib.hid hw0
  have HT := Lib.hid hT
  clear hv hx hb0 hz hw0 hT
  rw [if_pos hok] at HCA
  rw [if_pos hom] at HCB
  have hl := spOk_len hok
  have hm := spOk_len hom
  have HLM : Hid (l.length = m.length) := show l.length = m.length by omega
  have HL8 : Hid (8 ≤ l.length ∧ l.length ≤ 4096) := ⟨hl.2.1, hl.2.2⟩
  have HCL := Lib.hid fun W (h : Below w.heap.size w W) => booclone_any W (.slice A n c) l (HV.out.below h) hlen
  clear hok hom hl hm hlen hlenm
  refine (callsIn_wide (n := 3)).1 ?_
  refine callsIn_of_wp_marks Try.func11 rfl trivial ?_ rfl
  simp only [Try.ntmps11, List.size_toArray, List.length_cons, List.length_nil, Nat.reduceAdd, Nat.reduceSub, Array.replicate_succ, Array.replicate_zero, List.push_toArray, List.append_toArray, List.nil_append, List.cons_append]
  refine wpIn_wide.2 ?_
  go_wp2_with fail
  rw [HW0.out]
  refine (HCA.out w0 (Below.refl _ _)).mono ?_
  rintro e w1 ⟨rfl, hb1⟩
  have HBB1 : Hid (Below w0.heap.size w0 w1) := hb1
  have HT1 : Hid (BoSt w w1 p (.slice A n c) p (.slice A' n' c') 0 (.slice none 0 0)) := HT.out.below HBB1.out
  have HB1 : Hid (Below w.heap.size w w1) := HB0.out.trans (HBB1.out.mono HB0.out.size)
  have a0 := HT1.out.1.c0
  have a1 := HT1.out.1.c1
  have b0 := HT1.out.2.1.c0
  have b1 := HT1.out.2.1.c1
  clear hb1
  go_wp2_with fail
  refine (HCB.out w1 HBB1.out).mono ?_
  rintro e w2 ⟨rfl, hb2⟩
  have HBB2 : Hid (Below w0.heap.size w0 w2) := HBB1.out.trans (hb2.mono HBB1.out.size)
  have HT2 : Hid (BoSt w w2 p (.slice A n c) p (.slice A' n' c') 0 (.slice none 0 0)) := HT.out.below HBB2.out
  have HB2 : Hid (Below w.heap.size w w2) := HB0.out.trans (HBB2.out.mono HB0.out.size)
  have a0 := HT2.out.1.c0
  have a1 := HT2.out.1.c1
  have b0 := HT2.out.2.1.c0
  have b1 := HT2.out.2.1.c1
  clear hb2

  go_wp2_with fail
  refine (HCL.out w2 HB2.out).mono ?_
  rintro e w3 ⟨v3, rfl, ho3, hb3⟩
  obtain ⟨g, c3, rfl, hBg, hg, hc31, hc32, _, _⟩ := OwnV.form ho3 (by rw [booC_len]; have := HL8.out; omega)
  rw [booC_len] at ho3 hc31 ⊢
  obtain ⟨k, hk⟩ : ∃ k, k = l.length := ⟨_, rfl⟩
  rw [← hk] at ho3 hc31 ⊢
  have HK := Lib.hid hk
  have HT3 : Hid (BoSt w w3 p (.slice A n c) p (.slice A' n' c') 0 (.slice none 0 0)) := HT2.out.below hb3
  have HB3 : Hid (Below w.heap.size w w3) := HB2.out.trans (hb3.mono HB2.out.size)
  have HO3 : Hid (OwnB w3 w.heap.size (.slice (some ⟨g, 0, none⟩) k c3) l) := OwnV.lower ho3 HB2.out.size
  have HG : Hid (w.heap.size + 3 ≤ g ∧ g < w3.heap.size) := ⟨by have := HT2.out.size; omega, hg⟩
  clear ho3 hb3 hk hBg hg a0 a1 b0 b1
  have a1 := HT3.out.1.c1
  go_wp2_with (first
    | (refine wpList_put1 22 rfl (.tmp 26) (.tmp 25) rfl 1 (.slice (some ⟨g, 0, none⟩) k c3) rfl rfl rfl boolsInfo1 _ HT3.out.1.c1 (HT3.out.1.frozen 1) ?_; intro w4 hw4
       have hg4 : w3.grownBy w4 (some w.heap.size) := by rw [hw4]; exact grown_set _ _ _ _
       have HT4 : Hid (BoSt w w4 p (.slice (some ⟨g, 0, none⟩) k c3) p (.slice A' n' c') 0 (.slice none 0 0)) := by rw [hw4]; exact HT3.out.putA _
       have HO4 : Hid (OwnB w4 w.heap.size (.slice (some ⟨g, 0, none⟩) k c3) l) := Boos.grownB HO3.out hg4 (by have := HG.out; omega)
       have HB4 : Hid (Below w.heap.size w w4) := HB3.out.grown hg4 HB3.out.size (fun k e => by cases e; omega)
       have HG4 : Hid (g < w4.heap.size) := Nat.lt_of_lt_of_le HG.out.2 hg4.size
       have b0 := HT4.out.2.1.c0
       have b1 := HT4.out.2.1.c1
       clear hw4 hg4 a1))
  refine (those_any w4 p (.slice A' n' c') true).mono ?_
  rintro e w5 ⟨rfl, hw5⟩
  have hz5 : w5.heap.size = w4.heap.size + 2 := by rw [hw5]; simp
  have hbs : SpBox w5 w4.heap.size p (.slice A' n' c') := by rw [hw5]; exact (SBox.new w4 24 [.int .i64 p, .slice A' n' c']).alloc _
  have hbu : SBox w5 (w4.heap.size + 1) 4 [.bool true] := by
    have := SBox.new (w4.alloc (.cells #[.int .i64 p, .slice A' n' c'] 24)) 4 [.bool true]
    rw [World.size_alloc] at this
    rw [hw5]
    exact this
  have hb5 : Below w4.heap.size w4 w5 := by rw [hw5]; exact (below_new w4 _).trans ((below_new _ _).mono (by simp))
  have HB5 : Hid (Below w.heap.size w w5) := HB4.out.trans (hb5.mono HB4.out.size)
  have HT5 : Hid (BoSt w w5 p (.slice (some ⟨g, 0, none⟩) k c3) p (.slice A' n' c') 0 (.slice none 0 0)) := HT4.out.below hb5
  have HO5 : Hid (OwnB w5 w.heap.size (.slice (some ⟨g, 0, none⟩) k c3) l) := OwnV.keep HO4.out hb5
  have HZ5 : Hid (w5.heap.size = w4.heap.size + 2) := hz5
  have HSQ := Lib.hid (those_stops Fence.wide 2 trivial rfl (by omega) w4.heap.size (w4.heap.size + 1) w (.slice A' n' c') m true HX.out w5 HB5.out (by omega) (by omega) hbs.c1 (hbu.cell 0 _ rfl))
  clear hw5 hz5 hbs hbu hb5 b0 b1
  go_wp2_with fail
  refine (wpIn_wide (n := 3)).1 ?_
  refine wpIn_rangeFunc_ownG rfl (by omega) (gf := 50) (lb := #[.pointer (some ⟨w4.heap.size, 0, none⟩), .pointer (some ⟨w4.heap.size + 1, 0, none⟩)]) rfl trivial (enters_of Try.func50 (by kernel_rfl) rfl)
    HSQ.out (fun h k => h.trans k) (KpS.obj (w := w5) HB5.out.size (by have := HZ5.out; omega)) (Below.refl _ _) (fun _ => rfl)
    (fun (pre : List (Ix m true)) W => BoSt w W p (.slice (some ⟨g, 0, none⟩) k c3) p (.slice A' n' c') 0 (.slice none 0 0) ∧ OwnB W w.heap.size (.slice (some ⟨g, 0, none⟩) k c3) (setAll l (ixs pre)) ∧ Below w.heap.size w W)
    (fun _ _ _ => False)
    (fun s X Y row hs hg hr => ⟨hs.1.turn HT5.out.size hg (fun r e => (hr r e).1), ownsRow_turn hs.2.1 hg (fun r e => (hr r e).2), below_turn hs.2.2 HB5.out.size hg (fun r e => (hr r e).1)⟩)
    (fun _ _ _ _ _ hs _ _ => hs)
    ⟨HT5.out, HO5.out, HB5.out⟩
    (fun x => { tmps := #[.agg #[.int .i64 p, .slice A n c], .agg #[.int .i64 p, .slice A' n' c'], .pointer (some ⟨w.heap.size, 0, none⟩), .pointer (some ⟨w.heap.size + 1, 0, none⟩), .pointer (some ⟨w.heap.size + 1 + 1, 0, none⟩), .int .i64 0, .int .i64 (x.1 : Int),
      .agg #[.int .i64 p, .slice A n c], .int .i64 0, .bool false, .bool false, .agg #[.int .i64 p, .slice A' n' c'], .int .i64 0, .bool false, .bool false, .bool false, .pointer (some ⟨w.heap.size, 0, none⟩), .int .i64 p, .pointer (some ⟨w.heap.size + 1, 0, none⟩), .int .i64 p,
      .bool false, .bool false, undef, .pointer (some ⟨w.heap.size, 1, none⟩), .slice A n c, .slice (some ⟨g, 0, none⟩) k c3, .pointer (some ⟨w.heap.size, 1, none⟩), .agg #[.int .i64 p, .slice A' n' c'],
      .func (.func 50) #[] #[.pointer (some ⟨w4.heap.size, 0, none⟩), .pointer (some ⟨w4.heap.size + 1, 0, none⟩)], .int .i64 (x.1 : Int), undef, undef, undef, undef, undef], defers := [] }) ?assign ?body ?done ?stop
  case assign =>
    intro lp x W K hK
    gi_wp2
    exact hK
  case body =>
    rintro lp pre x W ⟨hT, hO, hB⟩ hlen
    have hxl : x.1 < m.length := (List.getElem?_eq_some_iff.1 x.2).1
    have hxk : (x.1 : Int) < (k : Int) := by have := HK.out; have := HLM.out; omega
    have HTW := Lib.hid hT
    have HOW := Lib.hid hO
    have HBW := Lib.hid hB
    have HXL : Hid (x.1 < (setAll l (ixs pre)).length) := by show _ < _; rw [setAll_len]; have := HLM.out; omega
    have HLN : Hid ((setAll l (ixs pre)).length = k) := by rw [Hid, setAll_len]; exact HK.out.symm
    have a1 := hT.1.c1
    clear hT hO hB hxl hlen
    gi_wp2_with (first
      | (refine wpListIn_put1 4 rfl (.tmp 33) _ rfl x.1 (.bool true) rfl rfl rfl boolInfo1 _ (own_cellB HOW.out HXL.out) (own_frozenB HOW.out x.1) ?_; intro W2 hW2
         have hg2 : W.grownBy W2 (some g) := by rw [hW2]; exact grown_set _ _ _ _
         have HTa : Hid (BoSt w W2 p (.slice (some ⟨g, 0, none⟩) k c3) p (.slice A' n' c') 0 (.slice none 0 0)) := HTW.out.turn (Nat.le_refl _) hg2 (fun r e => by cases e; exact HG.out.1)
         have HOa : Hid (OwnB W2 w.heap.size (.slice (some ⟨g, 0, none⟩) k c3) ((setAll l (ixs pre)).set x.1 true)) := by rw [hW2]; exact own_setB HOW.out HLN.out x.1 true
         have HBa : Hid (Below w.heap.size W W2) := (Below.refl _ _).grown hg2 HBW.out.size (fun k e => by cases e; have := HG.out; omega)
         have HKa : Hid (KeepsFrom w5.heap.size W W2) := KeepsFrom.of_grownBy hg2 (fun j e => by cases e; have := HG4.out; have := HZ5.out; omega)
         have HKb : Hid (W2.heap[w4.heap.size + 1]? = W.heap[w4.heap.size + 1]?) := by rw [hW2]; exact heap_cell_other (by have := HG4.out; omega)
         clear hW2 hg2 a1))
    refine ⟨HKa.out, ⟨HBa.out, HKb.out⟩, HTa.out, ?_, HBW.out.trans HBa.out⟩
    rw [ixs_snoc, setAll_snoc]
    exact HOa.out
  case done =>
    rintro D ys W hD rfl ⟨hT, hO, hB⟩ hK
    rw [ixs_all, setAll_or HLM.out] at hO
    have HTW := Lib.hid hT
    have HOW := Lib.hid hO
    have HBW := Lib.hid hB
    have HKW := Lib.hid hK
    have HD := Lib.hid hD
    clear hT hO hB hK hD
    go_wp2_with (first
      | (refine wpList_loadS HTW.out.1 Try.underlying24 spInfo rfl _ rfl rfl ?_)
      | (refine wpList_storeS HTW.out.2.2 spInfo rfl _ _ rfl rfl (ds := [.int .i64 p, .slice (some ⟨g, 0, none⟩) k c3]) rfl rfl (one_sp _ _ _ _) ?_; intro W2 hR2 hg2 hz2
         have HKa : Hid (W2.heap[D]? = some (.deferred (some []))) := (hg2.block D (Array.getElem?_eq_some_iff.1 HKW.out).1 (by have := HD.out; have := HT5.out.size; simp; omega)).trans HKW.out
         have HOa : Hid (OwnB W2 w.heap.size (.slice (some ⟨g, 0, none⟩) k c3) (spOr l m)) := Boos.grownB HOW.out hg2 (by have := HG.out; omega)
         have HBa : Hid (Below w.heap.size w W2) := HBW.out.grown hg2 HBW.out.size (fun k e => by cases e; omega)
         clear hg2))
    refine ⟨by simp, .inl ⟨_, _, rfl, run_takeDeferred HKa.out, ?_⟩⟩
    have hg5 := grownBy_putObj' W2 D (.deferred none)
    have hR3 : SpBox (W2.putObj D (.deferred none)) (w.heap.size + 2) p (.slice (some ⟨g, 0, none⟩) k c3) := SBox.grown hR2 hg5 (by have := HD.out; have := HT5.out.size; omega)
    exact ⟨_, res_s2 hR3 Try.underlying24 spInfo rfl rfl _ rfl, _, rfl, ownsRow_turn HOa.out hg5 (fun r e => by cases e; exact ⟨_, HKa.out, rfl⟩), below_turn HBa.out HB5.out.size hg5 (fun r e => by cases e; exact HD.out)⟩
  case stop =>
    rintro D c pre W _ _ h _
    exact h.elim
theorem spBoth_any (w : World) (p q : Int) (v x : Value) (l m : List Bool) (hv : Boos w v l) (hx : Boos w x m) (hlen : l.length ≤ 70368744177664) (hlenm : m.length ≤ 70368744177664) :
    Calls Try.prog 11 #[.agg #[.int .i64 p, v], .agg #[.int .i64 q, x]] w (SpOut w (spBoth p l q m)) := by
  unfold spBoth
  by_cases h : ¬ spOk p l ∨ ¬ spOk q m ∨ p ≠ q
  · rw [if_pos h]
    exact spBoth_not w p q v x l m hv hx hlen hlenm h
  · rw [if_neg h]
    have h1 : spOk p l := Classical.byContradiction fun e => h (.inl e)
    have h2 : spOk q m := Classical.byContradiction fun e => h (.inr (.inl e))
    have h3 : p = q := Classical.byContradiction fun e => h (.inr (.inr e))
    subst h3
    exact spBoth_ok w p v x l m hv hx h1 h2
end Go.Proofs.Ytncjobeahpjnpaa
