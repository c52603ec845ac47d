/-
  Plain tables: how many stand, the first free one, what Set and Clear turn. Conditions: none.
-/
import Derived.Test.YthakkaffjnkhgaaTbA
namespace Go.Proofs.Ythakkaffjnkhgaa
set_option maxRecDepth 100000
set_option linter.unusedVariables false
set_option linter.unusedSimpArgs false

/-- How many of the first n places are not 0. -/
def cntZ (zs : List Int) (n : Nat) : Nat := ((zs.take n).filter nzB).length
theorem cntZ_zero (zs : List Int) : cntZ zs 0 = 0 := by simp [cntZ]
theorem cntZ_succ (zs : List Int) (n : Nat) : cntZ zs (n + 1) = cntZ zs n + if atZ zs n = 0 then 0 else 1 := by
  unfold cntZ
  by_cases h : n < zs.length
  · rw [List.take_succ_eq_append_getElem h, List.filter_append, List.length_append, ← atZ_lt h]
    congr 1
    by_cases e : atZ zs n = 0
    · rw [if_pos e, e]; rfl
    · rw [if_neg e]
      have : nzB (atZ zs n) = true := by simp [nzB, e]
      simp [this]
  · rw [List.take_of_length_le (by omega), List.take_of_length_le (by omega), atZ_ge (by omega), if_pos rfl]
    rfl
theorem cntZ_all (zs : List Int) (n : Nat) (h : zs.length ≤ n) : cntZ zs n = (zs.filter nzB).length := by
  unfold cntZ
  rw [List.take_of_length_le h]
theorem cntZ_le (zs : List Int) (n : Nat) : cntZ zs n ≤ zs.length := by
  unfold cntZ
  refine Nat.le_trans (List.length_filter_le _ _) ?_
  rw [List.length_take]
  omega
/-- The page that stands there is the so manyth. -/
theorem pgs_at {zs : List Int} {n : Nat} (h : atZ zs n ≠ 0) : cntZ zs n < (zs.filter nzB).length ∧ atZ (zs.filter nzB) (cntZ zs n) = atZ zs n := by
  have hn := atZ_in h
  have e : zs.filter nzB = (zs.take n).filter nzB ++ (atZ zs n :: (zs.drop (n + 1)).filter nzB) := by
    have e1 : zs = zs.take n ++ (atZ zs n :: zs.drop (n + 1)) := by
      rw [atZ_lt hn, ← List.drop_eq_getElem_cons hn, List.take_append_drop]
    have hz : nzB (atZ zs n) = true := by simp [nzB, h]
    calc zs.filter nzB = (zs.take n ++ (atZ zs n :: zs.drop (n + 1))).filter nzB := by rw [← e1]
      _ = _ := by rw [List.filter_append, List.filter_cons_of_pos hz]
  have hl : cntZ zs n < (zs.filter nzB).length := by
    rw [e]
    unfold cntZ
    simp
  refine ⟨hl, ?_⟩
  rw [atZ_lt hl]
  have : (zs.filter nzB)[cntZ zs n]'hl = ((zs.take n).filter nzB ++ (atZ zs n :: (zs.drop (n + 1)).filter nzB))[cntZ zs n]'(by rw [← e]; exact hl) := by
    congr 1
  rw [this, List.getElem_append_right (by unfold cntZ; omega)]
  simp [cntZ]
/-- One more stands. -/
theorem cntZ_more {zs ys : List Int} {q : Nat} (h0 : atZ zs q = 0) (h1 : atZ ys q ≠ 0) (h : ∀ j, j ≠ q → atZ ys j = atZ zs j) : ∀ n, cntZ ys n = cntZ zs n + if q < n then 1 else 0 := by
  intro n
  induction n with
  | zero => simp [cntZ_zero]
  | succ n ih =>
    rw [cntZ_succ, cntZ_succ, ih]
    by_cases e : n = q
    · subst e
      rw [if_neg h1, if_pos h0, if_neg (Nat.lt_irrefl _), if_pos (Nat.lt_succ_self _)]
    · rw [h n e]
      by_cases e2 : q < n
      · have e3 : q < n + 1 := by omega
        simp only [e2, e3, if_true]
        omega
      · have e3 : ¬ q < n + 1 := by omega
        simp only [e2, e3, if_false]
        omega
theorem pages_more {zs ys : List Int} {q : Nat} (h0 : atZ zs q = 0) (h1 : atZ ys q ≠ 0) (h : ∀ j, j ≠ q → atZ ys j = atZ zs j) : (ys.filter nzB).length = (zs.filter nzB).length + 1 := by
  have := cntZ_more h0 h1 h (max zs.length ys.length + q + 1)
  rw [cntZ_all ys _ (by omega), cntZ_all zs _ (by omega), if_pos (by omega)] at this
  exact this
theorem pages_same {zs ys : List Int} (h : ∀ j, (atZ ys j = 0 ↔ atZ zs j = 0)) : (ys.filter nzB).length = (zs.filter nzB).length := by
  have : ∀ n, cntZ ys n = cntZ zs n := by
    intro n
    induction n with
    | zero => simp [cntZ_zero]
    | succ n ih =>
      rw [cntZ_succ, cntZ_succ, ih]
      by_cases e : atZ zs n = 0
      · rw [if_pos e, if_pos ((h n).2 e)]
      · rw [if_neg e, if_neg (fun e' => e ((h n).1 e'))]
  rw [← cntZ_all ys (max zs.length ys.length) (by omega), ← cntZ_all zs (max zs.length ys.length) (by omega)]
  exact this _
theorem getT_ok {zs : List Int} (h : tbOk zs) (n : Nat) : getT zs (n : Int) = atZ zs n := by
  unfold getT
  rw [if_pos ⟨h, by omega⟩, Int.toNat_natCast]
theorem findT_at {zs : List Int} (h : tbOk zs) {n : Nat} (h0 : atZ zs n ≠ 0) : findT zs (atZ zs n) = ((n : Int), true) := by
  have hi := idxZ_of h h0 rfl
  unfold findT
  rw [if_pos ⟨h, standZ_page h.2.2 h0, by rw [hi]; exact atZ_in h0⟩, hi]
theorem idx0_at (zs : List Int) : atZ zs (idxZ zs 0) = 0 := by
  by_cases h : idxZ zs 0 < zs.length
  · exact idxZ_at 0 zs h
  · exact atZ_ge (by omega)
/-- A page set to the first free place: the next free one lies behind. -/
theorem fresh_gt {zs ys : List Int} {q : Nat} (hq : q = idxZ zs 0) (h1 : atZ ys q ≠ 0) (h : ∀ j, j ≠ q → atZ ys j = atZ zs j) : q < idxZ ys 0 := by
  rcases Nat.lt_or_ge q (idxZ ys 0) with hl | hl
  · exact hl
  · have := idx0_at ys
    by_cases e : idxZ ys 0 = q
    · rw [e] at this; exact absurd this h1
    · rw [h _ e] at this
      exact absurd this (idxZ_before 0 zs _ (by omega))
theorem clear_set {zs : List Int} {q : Nat} {p : Int} (h : tbOk zs) (h0 : atZ zs q = 0) : trimL ((setL zs q p).set q 0) = zs := by
  refine trim_ext (trimN_trim _) h.2.1 (fun j => ?_)
  rw [atZ_trim, atZ_set _ (by rw [setL_len]; omega), atZ_setL]
  by_cases e : j = q
  · rw [if_pos e, e, h0]
  · rw [if_neg e, if_neg e]
theorem setT_ok {zs : List Int} {n : Nat} {p : Int} (h : tbOk zs) (hn : n < 65536) (hp : pgOk p) (hq : ¬ (idxZ zs p < zs.length ∧ idxZ zs p ≠ n)) : setT zs (n : Int) p = (setL zs n p, 0) := by
  unfold setT
  rw [if_neg (fun h' => h'.elim (fun h' => h' h) (fun h' => h'.elim (by omega) (fun h' => h'.elim (by omega) (fun h' => h' hp)))), Int.toNat_natCast, if_neg hq]
theorem clearT_ok {zs : List Int} {n : Nat} (h : tbOk zs) (h0 : atZ zs n ≠ 0) : clearT zs (n : Int) = (trimL (zs.set n 0), 0) := by
  unfold clearT
  rw [if_neg (fun h' => h' h), getT_ok h, if_neg h0, Int.toNat_natCast]
theorem clearT_none {zs : List Int} {n : Nat} (h : tbOk zs) (h0 : atZ zs n = 0) : clearT zs (n : Int) = ([], 6) := by
  unfold clearT
  rw [if_neg (fun h' => h' h), getT_ok h, if_pos h0]
theorem freshT_ok {zs : List Int} (h : tbOk zs) (hl : zs.length < 65536) : freshT zs = (((idxZ zs 0 : Nat) : Int), 0) := by
  unfold freshT
  rw [if_neg (fun h' => h' h), if_neg (by omega)]
end Go.Proofs.Ythakkaffjnkhgaa
