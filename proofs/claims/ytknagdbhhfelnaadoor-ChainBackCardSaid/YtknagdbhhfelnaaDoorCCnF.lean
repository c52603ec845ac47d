/-
  Package chain's Pages by its contract. Conditions: at most 2^30 bytes, whose slice has room for at most 2^46.
-/
import Derived.Test.YtknagdbhhfelnaaDoorCTurn
import Derived.Test.YtknagdbhhfelnaaDoorCCnE
import Derived.Test.YtknagdbhhfelnaaDoorCCnC
import Derived.Test.YtknagdbhhfelnaaDoorMg5
namespace Go.Proofs.YtknagdbhhfelnaaDoor
open Go.RowKit Go.Shelf Go.Maps
set_option maxRecDepth 100000
attribute [local go_sem] Oper.semAt_some
set_option linter.unusedVariables false

/-- The pages of these parts, in order. -/
def chainI (k : Nat) (nx : List Nat) (b : List UInt8) (pre : List Nat) : List (List UInt8) := pre.mapIdx fun p i => pageB k p (linkB (nx.getD p 0) (chunkB b i))
theorem chainI_snoc (k : Nat) (nx : List Nat) (b : List UInt8) (pre : List Nat) (i : Nat) : chainI k nx b (pre ++ [i]) = chainI k nx b pre ++ [pageB k pre.length (linkB (nx.getD pre.length 0) (chunkB b i))] := by
  unfold chainI
  rw [List.mapIdx_append]
  simp
theorem chainI_len (k : Nat) (nx : List Nat) (b : List UInt8) (pre : List Nat) : (chainI k nx b pre).length = pre.length := by simp [chainI]
/-- All pages of a chain. -/
def chainL (k : Nat) (ps : List Nat) (b : List UInt8) : List (List UInt8) := (List.range ps.length).map (chainB k ps b)
theorem nexts_get (ps : List Nat) (p : Nat) (h : p < ps.length) : (ps.drop 1 ++ [0]).getD p 0 = ps.getD (p + 1) 0 := by
  rw [List.getD_eq_getElem?_getD, List.getD_eq_getElem?_getD]
  by_cases h1 : p + 1 < ps.length
  · rw [List.getElem?_append_left (by rw [List.length_drop]; omega), List.getElem?_drop, Nat.add_comm 1 p]
  · rw [List.getElem?_append_right (by rw [List.length_drop]; omega), List.getElem?_eq_none (show ps.length ≤ p + 1 by omega), List.length_drop, show p - (ps.length - 1) = 0 by omega]
    rfl
theorem chainI_all (k : Nat) (ps : List Nat) (b : List UInt8) : chainI k (ps.drop 1 ++ [0]) b (List.range ps.length) = chainL k ps b := by
  unfold chainI chainL
  apply List.ext_getElem
  · simp
  · intro i h1 h2
    have hi : i < ps.length := by simpa using h1
    simp only [List.getElem_mapIdx, List.getElem_map, List.getElem_range]
    unfold chainB
    rw [nexts_get ps i hi]
/-- Slices of bytes of the call's own, each. -/
def Owns (w : World) (B : Nat) (vs : List Value) (ls : List (List UInt8)) : Prop := vs.length = ls.length ∧ ∀ j (hj : j < vs.length) (hj' : j < ls.length), Own w B 5 vs[j] ls[j]
theorem Owns.byts {w : World} {B : Nat} {vs : List Value} {ls : List (List UInt8)} (h : Owns w B vs ls) : Byts w vs ls := ⟨h.1, fun j hj hj' => (h.2 j hj hj').byt⟩
theorem Owns.nil (w : World) (B : Nat) : Owns w B [] [] := ⟨rfl, fun j hj => by simp at hj⟩
theorem Owns.snoc {w : World} {B : Nat} {vs : List Value} {ls : List (List UInt8)} (h : Owns w B vs ls) {v : Value} {l : List UInt8} (hv : Own w B 5 v l) : Owns w B (vs ++ [v]) (ls ++ [l]) := by
  refine ⟨by rw [List.length_append, List.length_append, h.1]; rfl, fun j hj hj' => ?_⟩
  by_cases e : j < vs.length
  · rw [List.getElem_append_left e, List.getElem_append_left (by rw [← h.1]; exact e)]
    exact h.2 j e (by rw [← h.1]; exact e)
  · have hl := h.1
    have hj2 : j = vs.length := by rw [List.length_append] at hj; simp at hj; omega
    subst hj2
    rw [List.getElem_append_right (Nat.le_refl _), List.getElem_append_right (by omega)]
    simp only [Nat.sub_self, hl, List.getElem_cons_zero]
    exact hv
theorem Owns.map {w w' : World} {B B' : Nat} {vs : List Value} {ls : List (List UInt8)} (h : Owns w B vs ls) (f : ∀ v l, Own w B 5 v l → Own w' B' 5 v l) : Owns w' B' vs ls := ⟨h.1, fun j hj hj' => f _ _ (h.2 j hj hj')⟩
theorem Owns.keep {w w' : World} {B : Nat} {vs : List Value} {ls : List (List UInt8)} (h : Owns w B vs ls) (hb : Below w.heap.size w w') : Owns w' B vs ls := h.map fun v l ho => ho.keep hb
/-- What Pages leaves where it may. -/
def PagesOut (w : World) (ls : List (List UInt8)) (e : Ending) (w' : World) : Prop :=
  ∃ v vs, e = .returned (.tuple #[v, .int .i64 0]) ∧ OwnR w' w.heap.size v vs ∧ Owns w' w.heap.size vs ls ∧ Below w.heap.size w w'

theorem res_pages {w : World} {s : Nat} {v : Value} {x : Int} {tmps : Array Value} (h1 : SBox w (s + 1) 22 [v]) (h2 : SBox w (s + 2) 23 [.int .i64 x]) (g1 : tmps.getD 6 undef = .pointer (some ⟨s + 1, 0, none⟩)) (g2 : tmps.getD 7 undef = .pointer (some ⟨s + 2, 0, none⟩)) :
    (results Tryd.f7 tmps).run Tryd.prog w = .ok (.tuple #[v, .int .i64 x]) w := by
  have c1 := h1.cell 0 _ rfl
  have c2 := h2.cell 0 _ rfl
  have q1 : tmps[6]?.getD undef = .pointer (some ⟨s + 1, 0, none⟩) := by simpa using g1
  have q2 : tmps[7]?.getD undef = .pointer (some ⟨s + 2, 0, none⟩) := by simpa using g2
  simp [results, Tryd.f7, go_sem, q1, q2, asAddr, c1, c2]

/-- All but the first of a list. -/
theorem rowz_tail {w : World} {A : Option Addr} {n c : Nat} {ps : List Nat} (h : Rowz w (.slice A n c) (natC ps)) (hn : 0 < ps.length) :
    ∃ A' n' c', (∀ W, (Instr.slice 26 (.slice A n c) (some (.int .i64 1)) none none).run Tryd.prog W = .ok (.slice A' n' c') W) ∧ Rowz w (.slice A' n' c') (natC (ps.drop 1)) := by
  obtain ⟨A0, c0, e, h1, h2, h3⟩ := h
  injection e with e1 e2 e3
  subst e1 e2 e3
  rw [natC_len] at h1
  rcases h3 with h3 | ⟨b, off, rfl, hb, hc⟩
  · have := congrArg List.length h3
    rw [natC_len] at this
    simp at this
    rw [this] at hn
    simp at hn
  · have hd : natC (ps.drop 1) = (natC ps).drop 1 := by simp [natC]
    have hr : ∀ W, (Instr.slice 26 (.slice (some ⟨b, off, none⟩) (natC ps).length c) (some (.int .i64 1)) none none).run Tryd.prog W = .ok (.slice (if c = 1 then some ⟨b, off, none⟩ else some ⟨b, off + 1, none⟩) (ps.length - 1) (c - 1)) W := by
      intro W
      rw [run_slice_l W 26 _ _ c (by kernel_rfl) .i64 1 (by omega) (by rw [natC_len]; omega)]
      rw [show (sizeOf (Tryd.prog.elem 26)).run Tryd.prog W = .ok 1 W from by kernel_rfl]
      simp only [Result.andThen, sliced, natC_len]
      by_cases h : c = 1
      · subst h; rfl
      · rw [if_neg (by simpa using h), if_neg h]
        simp [plainAdd]
    refine ⟨_, _, _, hr, ?_⟩
    refine ⟨_, c - 1, by rw [natC_len, List.length_drop], by rw [natC_len, List.length_drop]; omega, by unfold maxLen at h2 ⊢; omega, ?_⟩
    by_cases hl : ps.length = 1
    · refine .inl ?_
      rw [List.drop_of_length_le (by omega)]
      rfl
    · refine .inr ⟨b, off + 1, if_neg (by omega), hb, fun j hj => ?_⟩
      have hj2 : 1 + j < (natC ps).length := by rw [natC_len] at hj ⊢; rw [List.length_drop] at hj; omega
      have := hc (1 + j) hj2
      rw [show off + 1 + j = off + (1 + j) by omega, this]
      congr 1
      simp [natC, Nat.add_comm]

set_option maxHeartbeats 2000000 in
theorem cpages_bad (w : World) (k : Int) (A : Option Addr) (n c : Nat) (vb : Value) (ps : List Nat) (b : List UInt8) (hv : Rowz w (.slice A n c) (natC ps)) (hvb : Byt w vb b) (hlen : ps.length ≤ 1073741824) (hps : ∀ x ∈ ps, x ≤ 4611686018427387904) (hbl : b.length ≤ 1073741824)
    (h : ¬ ((k == 2 || k == 3 || k == 7) = true ∧ ps.length = needN b.length ∧ mayP ps)) :
    Calls Tryd.prog 7 #[.int .i64 k, .slice A n c, vb] w (Refused w 2) := by
  obtain ⟨Ab, m, cb, rfl, Nb, _, _⟩ := hvb.form
  obtain ⟨A, n, c, e, N, hnc, hcm⟩ := hv.form
  cases e
  have hn : n = ps.length := N.out.trans (natC_len ps)
  have hm : m = b.length := Nb.out
  subst hn hm
  have HV := Lib.hid hv
  have HK := Lib.hid fun W => ckind_any k W
  have HND := Lib.hid fun W => cneed_any W (b.length : Int) (by omega)
  rw [show needI (b.length : Int) = needN b.length from rfl] at HND
  have HMY := Lib.hid fun W (hb : Below w.heap.size w W) => cmay_any W A ps.length c ps (hv.below hb) hlen hps
  obtain ⟨w0, hw0⟩ : ∃ w0, ((w.alloc (.cells #[.int .i64 k] 3)).alloc (.cells #[.slice none 0 0] 22)).alloc (.cells #[.int .i64 0] 23) = w0 := ⟨_, rfl⟩
  have hs0 : w0.heap.size = w.heap.size + 3 := by rw [← hw0]; simp
  have hb0 : Below w.heap.size w w0 := by rw [← hw0]; exact (below_new w _).trans (((below_new _ _).mono (by simp)).trans ((below_new _ _).mono (by simp only [World.size_alloc]; omega)))
  have hk0 : SBox w0 w.heap.size 3 [.int .i64 k] := by rw [← hw0]; exact ((SBox.new w 3 [.int .i64 k]).alloc _).alloc _
  have h1 : SBox w0 (w.heap.size + 1) 22 [.slice none 0 0] := by
    have := (SBox.new (w.alloc (.cells #[.int .i64 k] 3)) 22 [.slice none 0 0]).alloc (.cells #[.int .i64 0] 23)
    rw [World.size_alloc] at this
    rw [← hw0]
    exact this
  have h2 : SBox w0 (w.heap.size + 2) 23 [.int .i64 0] := by
    have := SBox.new ((w.alloc (.cells #[.int .i64 k] 3)).alloc (.cells #[.slice none 0 0] 22)) 23 [.int .i64 0]
    rw [World.size_alloc, World.size_alloc] at this
    rw [← hw0]
    exact this
  have HW0 := Lib.hid hw0
  have HB0 := Lib.hid hb0
  have c0 := hk0.cell 0 _ rfl
  have H1 := Lib.hid h1
  have H2 := Lib.hid h2
  clear hv hvb hw0 hb0 hs0 hk0 h1 h2 N Nb
  cases hk : (k == 2 || k == 3 || k == 7) with
  | false =>
    rw [hk] at HK
    clear h hk
    go_enter Tryd.func7, Tryd.ntmps7
    go_wp2_with fail
    rw [HW0.out]
    go_wp2_with fail
    refine (HK.out w0).mono ?_
    rintro e w1 ⟨rfl, rfl⟩
    go_wp2_with (first
      | (refine wpList_put1 22 rfl (.tmp 6) _ rfl 0 (.slice none 0 0) rfl rfl rfl (by kernel_rfl) _ (H1.out.cell 0 _ rfl) (H1.out.frozen 0) ?_; intro w8 hw8
         have hg8 : World.grownBy w0 w8 (some (w.heap.size + 1)) := by rw [hw8]; exact grown_set _ _ _ _
         have H18 : Hid (SBox w8 (w.heap.size + 1) 22 [.slice none 0 0]) := by rw [hw8]; exact H1.out.put 0 _
         have H28 : Hid (SBox w8 (w.heap.size + 2) 23 [.int .i64 0]) := H2.out.grown hg8 (by omega)
         have HB8 : Hid (Below w.heap.size w w8) := HB0.out.grown hg8 HB0.out.size (fun j e => by cases e; omega)
         clear hw8 hg8)
      | (refine wpList_put1 23 rfl (.tmp 7) _ rfl 0 (.int .i64 2) rfl rfl rfl (by kernel_rfl) _ (H28.out.cell 0 _ rfl) (H28.out.frozen 0) ?_; intro w9 hw9
         have hg9 : World.grownBy w8 w9 (some (w.heap.size + 2)) := by rw [hw9]; exact grown_set _ _ _ _
         have H19 : Hid (SBox w9 (w.heap.size + 1) 22 [.slice none 0 0]) := H18.out.grown hg9 (by omega)
         have H29 : Hid (SBox w9 (w.heap.size + 2) 23 [.int .i64 2]) := by rw [hw9]; exact H28.out.put 0 _
         have HB9 : Hid (Below w.heap.size w w9) := HB8.out.grown hg9 HB8.out.size (fun j e => by cases e; omega)
         clear hw9 hg9))
    refine bodyPost_ret (res_pages H19.out H29.out rfl rfl) rfl ?_
    exact ⟨rfl, HB9.out⟩

  | true =>
    rw [hk] at HK
    by_cases hl : ps.length = needN b.length
    · have hm : decide (mayP ps) = false := decide_eq_false fun hm => h ⟨hk, hl, hm⟩
      rw [hm] at HMY
      rw [← hl] at HND
      clear h hk hm hl
      go_enter Tryd.func7, Tryd.ntmps7
      go_wp2_with fail
      rw [HW0.out]
      go_wp2_with fail
      refine (HK.out w0).mono ?_
      rintro e w1 ⟨rfl, rfl⟩
      go_wp2_with fail
      refine (HND.out w0).mono ?_
      rintro e w1 ⟨rfl, rfl⟩
      go_wp2_with fail
      refine (HMY.out w0 HB0.out).mono ?_
      rintro e w2 ⟨rfl, hb2⟩
      have H12 : Hid (SBox w2 (w.heap.size + 1) 22 [.slice none 0 0]) := H1.out.below hb2
      have H22 : Hid (SBox w2 (w.heap.size + 2) 23 [.int .i64 0]) := H2.out.below hb2
      have HB2 : Hid (Below w.heap.size w w2) := HB0.out.trans (hb2.mono HB0.out.size)
      clear hb2 c0
      go_wp2_with (first
        | (refine wpList_put1 22 rfl (.tmp 6) _ rfl 0 (.slice none 0 0) rfl rfl rfl (by kernel_rfl) _ (H12.out.cell 0 _ rfl) (H12.out.frozen 0) ?_; intro w8 hw8
           have hg8 : World.grownBy w2 w8 (some (w.heap.size + 1)) := by rw [hw8]; exact grown_set _ _ _ _
           have H18 : Hid (SBox w8 (w.heap.size + 1) 22 [.slice none 0 0]) := by rw [hw8]; exact H12.out.put 0 _
           have H28 : Hid (SBox w8 (w.heap.size + 2) 23 [.int .i64 0]) := H22.out.grown hg8 (by omega)
           have HB8 : Hid (Below w.heap.size w w8) := HB2.out.grown hg8 HB2.out.size (fun j e => by cases e; omega)
           clear hw8 hg8)
        | (refine wpList_put1 23 rfl (.tmp 7) _ rfl 0 (.int .i64 2) rfl rfl rfl (by kernel_rfl) _ (H28.out.cell 0 _ rfl) (H28.out.frozen 0) ?_; intro w9 hw9
           have hg9 : World.grownBy w8 w9 (some (w.heap.size + 2)) := by rw [hw9]; exact grown_set _ _ _ _
           have H19 : Hid (SBox w9 (w.heap.size + 1) 22 [.slice none 0 0]) := H18.out.grown hg9 (by omega)
           have H29 : Hid (SBox w9 (w.heap.size + 2) 23 [.int .i64 2]) := by rw [hw9]; exact H28.out.put 0 _
           have HB9 : Hid (Below w.heap.size w w9) := HB8.out.grown hg9 HB8.out.size (fun j e => by cases e; omega)
           clear hw9 hg9))
      refine bodyPost_ret (res_pages H19.out H29.out rfl rfl) rfl ?_
      exact ⟨rfl, HB9.out⟩
    · have hne := ne_int hl
      generalize needN b.length = nd at *
      clear h hk
      go_enter Tryd.func7, Tryd.ntmps7
      go_wp2_with fail
      rw [HW0.out]
      go_wp2_with fail
      refine (HK.out w0).mono ?_
      rintro e w1 ⟨rfl, rfl⟩
      go_wp2_with fail
      refine (HND.out w0).mono ?_
      rintro e w1 ⟨rfl, rfl⟩
      go_wp2_with (first
        | (refine wpList_put1 22 rfl (.tmp 6) _ rfl 0 (.slice none 0 0) rfl rfl rfl (by kernel_rfl) _ (H1.out.cell 0 _ rfl) (H1.out.frozen 0) ?_; intro w8 hw8
           have hg8 : World.grownBy w0 w8 (some (w.heap.size + 1)) := by rw [hw8]; exact grown_set _ _ _ _
           have H18 : Hid (SBox w8 (w.heap.size + 1) 22 [.slice none 0 0]) := by rw [hw8]; exact H1.out.put 0 _
           have H28 : Hid (SBox w8 (w.heap.size + 2) 23 [.int .i64 0]) := H2.out.grown hg8 (by omega)
           have HB8 : Hid (Below w.heap.size w w8) := HB0.out.grown hg8 HB0.out.size (fun j e => by cases e; omega)
           clear hw8 hg8)
        | (refine wpList_put1 23 rfl (.tmp 7) _ rfl 0 (.int .i64 2) rfl rfl rfl (by kernel_rfl) _ (H28.out.cell 0 _ rfl) (H28.out.frozen 0) ?_; intro w9 hw9
           have hg9 : World.grownBy w8 w9 (some (w.heap.size + 2)) := by rw [hw9]; exact grown_set _ _ _ _
           have H19 : Hid (SBox w9 (w.heap.size + 1) 22 [.slice none 0 0]) := H18.out.grown hg9 (by omega)
           have H29 : Hid (SBox w9 (w.heap.size + 2) 23 [.int .i64 2]) := by rw [hw9]; exact H28.out.put 0 _
           have HB9 : Hid (Below w.heap.size w w9) := HB8.out.grown hg9 HB8.out.size (fun j e => by cases e; omega)
           clear hw9 hg9))
      refine bodyPost_ret (res_pages H19.out H29.out rfl rfl) rfl ?_
      exact ⟨rfl, HB9.out⟩
end Go.Proofs.YtknagdbhhfelnaaDoor
