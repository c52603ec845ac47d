/-
  A table is its bytes, and no other bytes are: numbers' bytes read and told again. Plain functions. Conditions: none.
-/
import Derived.Test.YthakkaffjnkhgaaTbH
namespace Go.Proofs.Ythakkaffjnkhgaa
set_option maxRecDepth 100000
set_option linter.unusedVariables false
set_option linter.unusedSimpArgs false

theorem u8_same (x : UInt8) : UInt8.ofNat x.toNat = x := by simp
/-- Bytes that a number is read from are its bytes. -/
theorem firstF_back (f : Nat) : ∀ (i acc : Nat) (r : List UInt8), i + f = 9 → (firstF i acc r).2.2 = 0 →
    ∃ m rest, r = numF f m ++ rest ∧ (firstF i acc r).1 = acc + m * 2 ^ (7 * i) ∧ (firstF i acc r).2.1 = i + (numF f m).length ∧ (0 < i → 1 ≤ m) := by
  induction f with
  | zero =>
    intro i acc r hi h
    match r with
    | [] => simp [firstF] at h
    | x :: r =>
      unfold firstF at h ⊢
      by_cases hb : (i = 9 ∧ 1 < x.toNat) ∨ (0 < i ∧ x.toNat = 0)
      · rw [if_pos hb] at h; simp at h
      · rw [if_neg hb] at h ⊢
        have hx : x.toNat < 128 := by omega
        rw [if_pos hx]
        refine ⟨x.toNat, r, by simp [numF], ?_, by simp [numF], by omega⟩
        rw [Nat.mod_eq_of_lt hx]
  | succ f ih =>
    intro i acc r hi h
    match r with
    | [] => simp [firstF] at h
    | x :: r =>
      unfold firstF at h ⊢
      by_cases hb : (i = 9 ∧ 1 < x.toNat) ∨ (0 < i ∧ x.toNat = 0)
      · rw [if_pos hb] at h; simp at h
      · rw [if_neg hb] at h ⊢
        by_cases hx : x.toNat < 128
        · rw [if_pos hx]
          refine ⟨x.toNat, r, by rw [numF_small _ _ hx]; simp, ?_, by rw [numF_small _ _ hx]; simp, by omega⟩
          rw [Nat.mod_eq_of_lt hx]
        · rw [if_neg hx] at h ⊢
          obtain ⟨m, rest, e1, e2, e3, e4⟩ := ih (i + 1) _ r (by omega) h
          have hm := e4 (by omega)
          have hx2 : x.toNat < 256 := x.toNat_lt
          have hq : (x.toNat - 128 + 128 * m) / 128 = m := by omega
          have hr : (x.toNat - 128 + 128 * m) % 128 = x.toNat - 128 := by omega
          have hn : numF (f + 1) (x.toNat - 128 + 128 * m) = x :: numF f m := by
            rw [numF_step _ _ (by omega), hq, hr, show x.toNat - 128 + 128 = x.toNat by omega, u8_same]
          refine ⟨x.toNat - 128 + 128 * m, rest, by rw [hn, e1]; rfl, ?_, by rw [e3, hn, List.length_cons]; omega, by omega⟩
          rw [e2, show x.toNat % 128 = x.toNat - 128 by omega, show 7 * (i + 1) = 7 + 7 * i by omega, Nat.pow_add, Nat.add_mul, show (2 : Nat) ^ 7 = 128 from rfl, Nat.mul_comm 128 m, Nat.mul_assoc, Nat.add_assoc]
theorem upto_back {l : List UInt8} {e most : Nat} (h : (uptoB l e most).2.2 = 0) : e = 0 ∧ l = numB (uptoB l e most).1 ++ (uptoB l e most).2.1 ∧ (uptoB l e most).1 ≤ most := by
  unfold uptoB at h ⊢
  by_cases he : e ≠ 0
  · rw [if_pos he] at h; exact absurd h he
  · rw [if_neg he] at h ⊢
    by_cases h2 : (firstB l).2.2 ≠ 0
    · rw [if_pos h2] at h; exact absurd h h2
    · rw [if_neg h2] at h ⊢
      by_cases h3 : most < (firstB l).1
      · rw [if_pos h3] at h; simp at h
      · rw [if_neg h3]
        have h2' : (firstF 0 0 l).2.2 = 0 := by unfold firstB at h2; omega
        obtain ⟨m, rest, e1, e2, e3, _⟩ := firstF_back 9 0 0 l (by omega) h2'
        refine ⟨by omega, ?_, by omega⟩
        have f1 : (firstB l).1 = m := by unfold firstB; rw [e2]; simp
        have f2 : (firstB l).2.1 = (numB m).length := by unfold firstB; rw [e3]; simp [numB]
        simp only
        rw [f1, f2]
        have : l = numB m ++ rest := e1
        rw [this]
        simp
theorem upto_num {n most : Nat} (r : List UInt8) (h : n ≤ most) (hm : most < 18446744073709551616) : uptoB (numB n ++ r) 0 most = (n, r, 0) := by
  have hf := firstB_num n r (by omega)
  unfold uptoB
  rw [if_neg (by simp), hf]
  simp only
  rw [if_neg (by simp), if_neg (by omega)]
  simp
theorem rds_back (l : List UInt8) (e k : Nat) : (rdsT l e k).2.2 = 0 → e = 0 ∧ l = numsT (rdsT l e k).1 ++ (rdsT l e k).2.1 := by
  induction k with
  | zero => intro h; exact ⟨h, by simp [rdsT, numsT]⟩
  | succ k ih =>
    intro h
    obtain ⟨h1, h2, _⟩ := upto_back (l := (rdsT l e k).2.1) (e := (rdsT l e k).2.2) (most := 4095) h
    obtain ⟨h3, h4⟩ := ih h1
    refine ⟨h3, ?_⟩
    show l = numsT ((rdsT l e k).1 ++ [_]) ++ _
    rw [numsT_app, numsT_one, List.append_assoc, Int.toNat_natCast]
    show l = numsT (rdsT l e k).1 ++ (numB (uptoB (rdsT l e k).2.1 (rdsT l e k).2.2 4095).1 ++ (uptoB (rdsT l e k).2.1 (rdsT l e k).2.2 4095).2.1)
    rw [← h2]
    exact h4
theorem rds_num {zs : List Int} (r : List UInt8) (h : ∀ j, 0 ≤ atZ zs j ∧ atZ zs j ≤ 4095) : ∀ k, k ≤ zs.length → rdsT (numsT zs ++ r) 0 k = (zs.take k, numsT (zs.drop k) ++ r, 0) := by
  intro k
  induction k with
  | zero => intro _; simp [rdsT]
  | succ k ih =>
    intro hk
    have e := ih (by omega)
    have hz := h k
    have ed : numsT (zs.drop k) ++ r = numB (atZ zs k).toNat ++ (numsT (zs.drop (k + 1)) ++ r) := by
      rw [List.drop_eq_getElem_cons (by omega), ← atZ_lt (by omega)]
      simp [numsT]
    have hu := upto_num (n := (atZ zs k).toNat) (most := 4095) (numsT (zs.drop (k + 1)) ++ r) (by omega) (by omega)
    rw [← ed] at hu
    unfold rdsT
    rw [e]
    simp only
    rw [hu]
    simp only
    rw [take_atZ (by omega), Int.toNat_of_nonneg hz.1]
theorem endZ_ok {l : List UInt8} {e : Nat} (h : endZ l e = 0) : e = 0 ∧ l = [] := by
  unfold endZ at h
  by_cases he : e ≠ 0
  · rw [if_pos he] at h; exact absurd h he
  · rw [if_neg he] at h
    by_cases hl : l = []
    · exact ⟨by omega, hl⟩
    · rw [if_neg hl] at h; simp at h
theorem readTb_cases (b : List UInt8) : (∃ zs, readTb b = (zs, 0) ∧ tbOk zs) ∨ readTb b = ([], 4) := by
  unfold readTb
  by_cases h : endZ (readZ b).2.1 (readZ b).2.2 = 0 ∧ tbOk (readZ b).1
  · rw [if_pos h]; exact .inl ⟨_, rfl, h.2⟩
  · rw [if_neg h]; exact .inr rfl
/-- Bytes that are read are told as just these. -/
theorem read_bytes {b : List UInt8} {zs : List Int} (h : readTb b = (zs, 0)) : tbOk zs ∧ bytesT zs = (b, 0) := by
  unfold readTb at h
  by_cases hc : endZ (readZ b).2.1 (readZ b).2.2 = 0 ∧ tbOk (readZ b).1
  · rw [if_pos hc] at h
    have hz : (readZ b).1 = zs := congrArg Prod.fst h
    obtain ⟨he, hl⟩ := endZ_ok hc.1
    have hok := hc.2
    rw [hz] at hok
    refine ⟨hok, ?_⟩
    unfold readZ at hz he hl
    obtain ⟨h1, h2⟩ := rds_back _ _ _ he
    obtain ⟨_, h3, _⟩ := upto_back h1
    rw [hl, List.append_nil] at h2
    have hlen : zs.length = (uptoB b 0 65536).1 := by rw [← hz, rdsT_len]
    rw [hz] at h2
    unfold bytesT
    rw [if_pos hok, hlen, ← h2, ← h3]
  · rw [if_neg hc] at h
    simp at h
/-- What was told is read as it; with more behind it, it is refused. -/
theorem read_told {zs : List Int} (h : tbOk zs) (r : List UInt8) : readTb (numB zs.length ++ numsT zs ++ r) = if r = [] then (zs, 0) else ([], 4) := by
  have hu : uptoB (numB zs.length ++ numsT zs ++ r) 0 65536 = (zs.length, numsT zs ++ r, 0) := by
    rw [List.append_assoc]
    exact upto_num _ h.1 (by omega)
  have hin : ∀ j, 0 ≤ atZ zs j ∧ atZ zs j ≤ 4095 := fun j => by
    by_cases h0 : atZ zs j = 0
    · omega
    · have := standZ_page h.2.2 h0
      omega
  have hr := rds_num r hin zs.length (Nat.le_refl _)
  rw [List.take_length, List.drop_length] at hr
  have hz : readZ (numB zs.length ++ numsT zs ++ r) = (zs, r, 0) := by
    unfold readZ
    rw [hu]
    simp only
    rw [hr]
    simp [numsT]
  unfold readTb
  rw [hz]
  simp only
  by_cases h0 : r = []
  · subst h0
    rw [if_pos ⟨rfl, h⟩, if_pos rfl]
  · rw [if_neg (fun hc => h0 (endZ_ok hc.1).2), if_neg h0]
theorem bytesT_ok {zs : List Int} (h : tbOk zs) : bytesT zs = (numB zs.length ++ numsT zs, 0) := if_pos h
theorem read_same {zs : List Int} (h : tbOk zs) : readTb (numB zs.length ++ numsT zs) = (zs, 0) := by
  have := read_told h []
  rwa [List.append_nil, if_pos rfl] at this
theorem read_more {zs : List Int} (h : tbOk zs) : readTb (numB zs.length ++ numsT zs ++ [0]) = ([], 4) := by
  rw [read_told h [0], if_neg (by simp)]
theorem read_less {zs : List Int} (h : tbOk zs) : readTb ((numB zs.length ++ numsT zs).take ((numB zs.length ++ numsT zs).length - 1)) = ([], 4) := by
  rcases readTb_cases ((numB zs.length ++ numsT zs).take ((numB zs.length ++ numsT zs).length - 1)) with ⟨us, h1, h2⟩ | h1
  · obtain ⟨_, h3⟩ := read_bytes h1
    rw [bytesT_ok h2] at h3
    have h4 : numB us.length ++ numsT us = (numB zs.length ++ numsT zs).take ((numB zs.length ++ numsT zs).length - 1) := congrArg Prod.fst h3
    have hl : 0 < (numB zs.length ++ numsT zs).length := by
      rw [List.length_append]
      have := (numB_len zs.length).1
      omega
    have h5 : ∃ c, numB zs.length ++ numsT zs = (numB us.length ++ numsT us) ++ [c] := by
      refine ⟨(numB zs.length ++ numsT zs)[(numB zs.length ++ numsT zs).length - 1], ?_⟩
      rw [h4, ← List.take_succ_eq_append_getElem (by omega), List.take_of_length_le (by omega)]
    obtain ⟨c, h5⟩ := h5
    have h6 := read_told h2 [c]
    rw [← h5, read_same h, if_neg (by simp)] at h6
    simp at h6
  · exact h1
end Go.Proofs.Ythakkaffjnkhgaa
