/-
  tallymanref10's Read by its contract. Conditions: at most 10,000 bytes.
-/
import Derived.Test.YthakkaffjnkhgaaTbP
import Derived.Test.YthakkaffjnkhgaaTbO
namespace Go.Proofs.Ythakkaffjnkhgaa
open Go.RowKit Go.Maps
set_option maxRecDepth 100000
set_option linter.unusedVariables false
set_option linter.unusedSimpArgs false

/-- The first k numbers, as the document's answer reads them. -/
def rdsR (l : List UInt8) (e : Nat) : Nat → List Int × List UInt8 × Nat
  | 0 => ([], l, e)
  | k + 1 => ((rdsR l e k).1 ++ [((uptoB (rdsR l e k).2.1 (rdsR l e k).2.2 4096).1 : Int)], (uptoB (rdsR l e k).2.1 (rdsR l e k).2.2 4096).2.1, (uptoB (rdsR l e k).2.1 (rdsR l e k).2.2 4096).2.2)
theorem rdsR_len (l : List UInt8) (e k : Nat) : (rdsR l e k).1.length = k := by
  induction k with
  | zero => rfl
  | succ k ih => simp [rdsR, ih]
theorem rdsR_in (l : List UInt8) (e k : Nat) : ∀ j, 0 ≤ atZ (rdsR l e k).1 j ∧ atZ (rdsR l e k).1 j ≤ 4096 := by
  induction k with
  | zero => intro j; simp [rdsR, atZ]
  | succ k ih =>
    intro j
    by_cases h : j < k
    · have : atZ (rdsR l e (k + 1)).1 j = atZ (rdsR l e k).1 j := atZ_app (by rw [rdsR_len]; exact h)
      rw [this]
      exact ih j
    · by_cases e' : j = k
      · subst e'
        rw [atZ_lt (by rw [rdsR_len]; omega)]
        simp only [rdsR]
        rw [List.getElem_append_right (by rw [rdsR_len]; omega)]
        have := uptoB_le (rdsR l e j).2.1 (rdsR l e j).2.2 4096
        simp [rdsR_len]
        omega
      · rw [atZ_ge (by rw [rdsR_len]; omega)]
        omega
theorem upto_e {l : List UInt8} {e most : Nat} (h : (uptoB l e most).2.2 = 0) : e = 0 := by
  unfold uptoB at h
  by_cases he : e ≠ 0
  · rw [if_pos he] at h; exact absurd h he
  · omega
theorem upto0 (l : List UInt8) (most : Nat) : uptoB l 0 most = if (firstB l).2.2 ≠ 0 then (0, l, (firstB l).2.2) else if most < (firstB l).1 then (0, l.drop (firstB l).2.1, 3) else ((firstB l).1, l.drop (firstB l).2.1, 0) := by
  unfold uptoB
  rw [if_neg (by simp)]
theorem upto_up {l : List UInt8} {e : Nat} (h : (uptoB l e 4095).2.2 = 0) : uptoB l e 4096 = uptoB l e 4095 := by
  have he := upto_e h
  subst he
  rw [upto0] at h
  rw [upto0, upto0]
  by_cases h2 : (firstB l).2.2 ≠ 0
  · rw [if_pos h2, if_pos h2]
  · rw [if_neg h2] at h
    rw [if_neg h2, if_neg h2]
    by_cases h3 : 4095 < (firstB l).1
    · rw [if_pos h3] at h; simp at h
    · rw [if_neg h3, if_neg (by omega)]
theorem upto_down {l : List UInt8} {e : Nat} (h : (uptoB l e 4096).2.2 = 0) (h1 : (uptoB l e 4096).1 ≤ 4095) : uptoB l e 4095 = uptoB l e 4096 := by
  have he := upto_e h
  subst he
  rw [upto0] at h h1
  rw [upto0, upto0]
  by_cases h2 : (firstB l).2.2 ≠ 0
  · rw [if_pos h2, if_pos h2]
  · rw [if_neg h2] at h h1
    rw [if_neg h2, if_neg h2]
    by_cases h3 : 4096 < (firstB l).1
    · rw [if_pos h3] at h; simp at h
    · rw [if_neg h3] at h1
      rw [if_neg h3, if_neg (by simp at h1; omega)]
theorem rdsT_err {l : List UInt8} {e n : Nat} (h : (rdsT l e n).2.2 = 0) : ∀ k, k ≤ n → (rdsT l e k).2.2 = 0 := by
  induction n with
  | zero =>
    intro k hk
    obtain rfl : k = 0 := by omega
    exact h
  | succ n ih =>
    intro k hk
    by_cases e' : k = n + 1
    · subst e'; exact h
    · exact ih (upto_e h) k (by omega)
theorem rdsR_err {l : List UInt8} {e n : Nat} (h : (rdsR l e n).2.2 = 0) : ∀ k, k ≤ n → (rdsR l e k).2.2 = 0 := by
  induction n with
  | zero =>
    intro k hk
    obtain rfl : k = 0 := by omega
    exact h
  | succ n ih =>
    intro k hk
    by_cases e' : k = n + 1
    · subst e'; exact h
    · exact ih (upto_e h) k (by omega)
theorem rds_up {l : List UInt8} {e n : Nat} (h : (rdsT l e n).2.2 = 0) : ∀ k, k ≤ n → rdsR l e k = rdsT l e k := by
  intro k
  induction k with
  | zero => intro _; rfl
  | succ k ih =>
    intro hk
    have e1 := ih (by omega)
    have e2 : (uptoB (rdsT l e k).2.1 (rdsT l e k).2.2 4095).2.2 = 0 := rdsT_err h (k + 1) hk
    unfold rdsR rdsT
    rw [e1, upto_up e2]
theorem rds_down {l : List UInt8} {e n : Nat} (h : (rdsR l e n).2.2 = 0) (hz : ∀ j, atZ (rdsR l e n).1 j ≤ 4095) : ∀ k, k ≤ n → rdsT l e k = rdsR l e k := by
  have hpre : ∀ k, k ≤ n → ∀ j, j < k → atZ (rdsR l e k).1 j = atZ (rdsR l e n).1 j := by
    clear h hz
    induction n with
    | zero => intro k hk j hj; omega
    | succ n ih =>
      intro k hk j hj
      by_cases e' : k = n + 1
      · subst e'; rfl
      · rw [ih k (by omega) j hj]
        exact (atZ_app (by rw [rdsR_len]; omega)).symm
  intro k
  induction k with
  | zero => intro _; rfl
  | succ k ih =>
    intro hk
    have e1 := ih (by omega)
    have e2 : (uptoB (rdsR l e k).2.1 (rdsR l e k).2.2 4096).2.2 = 0 := rdsR_err h (k + 1) hk
    have e3 : (uptoB (rdsR l e k).2.1 (rdsR l e k).2.2 4096).1 ≤ 4095 := by
      have h1 := hpre (k + 1) hk k (by omega)
      rw [atZ_lt (by rw [rdsR_len]; omega)] at h1
      simp only [rdsR] at h1
      rw [List.getElem_append_right (by rw [rdsR_len]; exact Nat.le_refl _)] at h1
      simp [rdsR_len] at h1
      have h2 := hz k
      rw [← h1] at h2
      omega
    unfold rdsT rdsR
    rw [e1, upto_down e2 e3]
theorem readTb_stop {b : List UInt8} {k : Nat} (hk : k ≤ (uptoB b 0 65536).1) (h : (rdsR (uptoB b 0 65536).2.1 (uptoB b 0 65536).2.2 k).2.2 ≠ 0) : readTb b = ([], 4) := by
  unfold readTb
  refine if_neg (fun hc => h ?_)
  have he := (endZ_ok hc.1).1
  unfold readZ at he
  rw [rds_up he k hk]
  exact rdsT_err he k hk
theorem readTb_full (b : List UInt8) : readTb b = if endZ (rdsR (uptoB b 0 65536).2.1 (uptoB b 0 65536).2.2 (uptoB b 0 65536).1).2.1 (rdsR (uptoB b 0 65536).2.1 (uptoB b 0 65536).2.2 (uptoB b 0 65536).1).2.2 = 0 ∧ tbOk (rdsR (uptoB b 0 65536).2.1 (uptoB b 0 65536).2.2 (uptoB b 0 65536).1).1 then ((rdsR (uptoB b 0 65536).2.1 (uptoB b 0 65536).2.2 (uptoB b 0 65536).1).1, 0) else ([], 4) := by
  unfold readTb readZ
  by_cases h1 : endZ (rdsT (uptoB b 0 65536).2.1 (uptoB b 0 65536).2.2 (uptoB b 0 65536).1).2.1 (rdsT (uptoB b 0 65536).2.1 (uptoB b 0 65536).2.2 (uptoB b 0 65536).1).2.2 = 0 ∧ tbOk (rdsT (uptoB b 0 65536).2.1 (uptoB b 0 65536).2.2 (uptoB b 0 65536).1).1
  · have he := (endZ_ok h1.1).1
    rw [rds_up he _ (Nat.le_refl _)]
  · rw [if_neg h1]
    by_cases h2 : endZ (rdsR (uptoB b 0 65536).2.1 (uptoB b 0 65536).2.2 (uptoB b 0 65536).1).2.1 (rdsR (uptoB b 0 65536).2.1 (uptoB b 0 65536).2.2 (uptoB b 0 65536).1).2.2 = 0 ∧ tbOk (rdsR (uptoB b 0 65536).2.1 (uptoB b 0 65536).2.2 (uptoB b 0 65536).1).1
    · have he := (endZ_ok h2.1).1
      have hd := rds_down he (fun j => by
        by_cases h0 : atZ (rdsR (uptoB b 0 65536).2.1 (uptoB b 0 65536).2.2 (uptoB b 0 65536).1).1 j = 0
        · omega
        · have := standZ_page h2.2.2.2 h0
          omega) _ (Nat.le_refl _)
      rw [← hd] at h2
      exact absurd h2 h1
    · rw [if_neg h2]
structure RrTb (w : World) (bx g : Nat) (l : List UInt8) (e k : Nat) (A : Option Addr) (q c : Nat) (wr : World) : Prop where
  res : TbBox wr w.heap.size (.slice none 0 0)
  box : TbBox wr bx (.slice A q c)
  own : OwnV wr (bx + 1) 3 (.slice A q c) (intC (rdsR l e k).1)
  rd : RRe wr g (rdsR l e k).2.1 (rdsR l e k).2.2
  bel : Below w.heap.size w wr
def RrTbL (w : World) (bx g N : Nat) (l : List UInt8) (e : Nat) (i : Value) (wr : World) : Prop := ∃ (k : Nat) (A : Option Addr) (q c : Nat), k ≤ N ∧ i = .int .i64 (k : Int) ∧ RrTb w bx g l e k A q c wr
end Go.Proofs.Ythakkaffjnkhgaa
