/-
  A disk's sectors behind a flush and behind a crash, as plain lists. Conditions: none.
-/
import Derived.Test.YtmfcckmcbmlhmaaSecA
namespace Go.Proofs.Ytmfcckmcbmlhmaa
set_option maxRecDepth 100000

theorem get_splice {α : Type} (L : List α) (off : Nat) (cs : List α) (h : off + cs.length ≤ L.length) (p : Nat) :
    (splice L off cs)[p]? = if p < off then L[p]? else if p < off + cs.length then cs[p - off]? else L[p]? := by
  unfold splice
  have hl : (L.take off).length = off := by rw [List.length_take]; omega
  rw [List.getElem?_append, hl]
  by_cases h1 : p < off
  · rw [if_pos h1, if_pos h1, List.getElem?_take, if_pos h1]
  · rw [if_neg h1, if_neg h1, List.getElem?_append]
    by_cases h2 : p < off + cs.length
    · rw [if_pos (by omega), if_pos h2]
    · rw [if_neg (by omega), if_neg h2, List.getElem?_drop]
      congr 1
      omega
theorem get_sect (L : List UInt8) (i q : Nat) : (sectB L i)[q]? = if q < 512 then L[512 * i + q]? else none := by
  unfold sectB
  rw [List.getElem?_take]
  by_cases h : q < 512
  · rw [if_pos h, if_pos h, List.getElem?_drop]
  · rw [if_neg h, if_neg h]
theorem sect_other {L : List UInt8} {n i : Nat} {cs : List UInt8} (h : 512 * n + cs.length ≤ L.length) (hc : cs.length ≤ 512) (hi : i ≠ n) : sectB (splice L (512 * n) cs) i = sectB L i := by
  apply List.ext_getElem?
  intro q
  rw [get_sect, get_sect]
  by_cases hq : q < 512
  · rw [if_pos hq, if_pos hq, get_splice _ _ _ h]
    by_cases h1 : 512 * i + q < 512 * n
    · rw [if_pos h1]
    · rw [if_neg h1, if_neg (by omega)]
  · rw [if_neg hq, if_neg hq]
theorem sect_same {L : List UInt8} {n : Nat} {cs : List UInt8} (h : 512 * (n + 1) ≤ L.length) (hc : cs.length ≤ 512) : sectB (splice L (512 * n) cs) n = cs ++ (sectB L n).drop cs.length := by
  apply List.ext_getElem?
  intro q
  rw [get_sect, List.getElem?_append]
  by_cases hq : q < 512
  · rw [if_pos hq, get_splice _ _ _ (by omega), if_neg (by omega)]
    by_cases h1 : q < cs.length
    · rw [if_pos (by omega), if_pos h1]
      congr 1
      omega
    · rw [if_neg (by omega), if_neg h1, List.getElem?_drop, get_sect, if_pos (by omega)]
      congr 1
      omega
  · rw [if_neg hq, if_neg (by omega), List.getElem?_drop, get_sect, if_neg (by omega)]
section
variable {f : Nat → Nat} {B : List UInt8} {C : Cch} {m : Nat} (hB : B.length = 512 * m) (hC : RowsC m C) (hd : (keysC C).Nodup)
include hB hC
theorem settle_none {i : Nat} : ∀ k, k ≤ C.length → (∀ j (hj : j < C.length), j < k → C[j].1 ≠ i) → sectB (settleTo f B C k) i = sectB B i := by
  intro k
  induction k with
  | zero => intro _ _; rfl
  | succ k ih =>
    intro hk hn
    have hr := hC _ (List.getElem_mem (show k < C.length by omega))
    show sectB (splice _ _ _) i = _
    rw [getD_at C k (by omega), sect_other (by rw [settleTo_len f B C m hB hC k (by omega), List.length_take]; omega) (by rw [List.length_take]; omega) (fun e => hn k (by omega) (by omega) e.symm)]
    exact ih (by omega) (fun j hj hjk => hn j hj (by omega))
include hd
theorem settle_some {j : Nat} (hj : j < C.length) : ∀ k, k ≤ C.length → j < k → sectB (settleTo f B C k) C[j].1 = C[j].2.take (f j) ++ (sectB B C[j].1).drop (C[j].2.take (f j)).length := by
  have hinj : ∀ a (ha : a < C.length), C[a].1 = C[j].1 → a = j := fun a ha e => by
    have h1 : (keysC C)[a]'(by rw [keysC_len]; exact ha) = (keysC C)[j]'(by rw [keysC_len]; exact hj) := by simpa [keysC] using e
    have hp := List.pairwise_iff_getElem.1 hd
    rcases Nat.lt_trichotomy a j with hlt | he | hgt
    · exact absurd h1 (hp a j _ _ hlt)
    · exact he
    · exact absurd h1.symm (hp j a _ _ hgt)
  intro k
  induction k with
  | zero => intro _ h; omega
  | succ k ih =>
    intro hk hjk
    have hr := hC _ (List.getElem_mem (show k < C.length by omega))
    have hl := settleTo_len f B C m hB hC k (by omega)
    show sectB (splice _ _ _) _ = _
    rw [getD_at C k (by omega)]
    by_cases e : k = j
    · subst e
      rw [sect_same (by rw [hl]; omega) (by rw [List.length_take]; omega), settle_none hB hC k (by omega) (fun a ha hak h => by have := hinj a ha h; omega)]
    · rw [sect_other (by rw [hl, List.length_take]; omega) (by rw [List.length_take]; omega) (fun h => e (hinj k (by omega) h.symm))]
      exact ih (by omega) (by omega)
end
theorem look_place {C : Cch} {n : Nat} {l : List UInt8} (h : lookC C n = some l) : ∃ j, ∃ hj : j < C.length, C[j].1 = n ∧ C[j].2 = l := by
  induction C with
  | nil => cases h
  | cons y C ih =>
    obtain ⟨a, z⟩ := y
    unfold lookC at h
    by_cases ha : a = n
    · rw [if_pos ha] at h
      injection h with h
      exact ⟨0, by simp, ha, h⟩
    · rw [if_neg ha] at h
      obtain ⟨j, hj, h1, h2⟩ := ih h
      exact ⟨j + 1, by simp; omega, h1, h2⟩
theorem look_off {C : Cch} {n : Nat} (h : lookC C n = none) : ∀ j (hj : j < C.length), C[j].1 ≠ n := fun j hj e =>
  lookC_none h (by rw [← e]; exact List.mem_map_of_mem (List.getElem_mem hj))

/-- Behind a flush a sector is as it was read ahead of it. -/
theorem flush_sect {s : St} (ok : OkSt s) (i : Nat) : sectB (settleS (fun _ => 512) s).B i = readB s i := by
  unfold readB
  cases h : lookC s.C i with
  | none => exact settle_none ok.whole ok.rows _ (Nat.le_refl _) (fun j hj _ => look_off h j hj)
  | some l =>
    obtain ⟨j, hj, rfl, rfl⟩ := look_place h
    have h1 := settle_some (f := fun _ => 512) ok.whole ok.rows ok.once hj _ (Nat.le_refl _) hj
    have h2 := (ok.rows _ (List.getElem_mem hj)).2
    have h3 : s.C[j].2.take 512 = s.C[j].2 := List.take_of_length_le (by omega)
    rw [h3] at h1
    show sectB (settleTo _ _ _ _) _ = _
    rw [h1, h2, List.drop_of_length_le, List.append_nil]
    · rfl
    · unfold sectB
      rw [List.length_take]
      omega
/-- The one sector that a crash may tear. -/
def Spec (s : St) (torn : Int) (i : Nat) : Prop := ∃ j, ∃ hj : j < s.C.length, (j : Int) = torn ∧ s.C[j].1 = i
theorem Spec.one {s : St} {torn : Int} {i i' : Nat} (h : Spec s torn i) (h' : Spec s torn i') : i = i' := by
  obtain ⟨j, hj, e1, e2⟩ := h
  obtain ⟨j', hj', e1', e2'⟩ := h'
  obtain rfl : j = j' := by omega
  exact e2.symm.trans e2'
/-- Behind a crash a sector is as it was at the last flush, or as it was written last, or, one alone, the beginning of that and the rest of the former. -/
theorem crash_sect {s : St} (ok : OkSt s) (keep : List Bool) (torn bytes : Int) (i : Nat) (hi : i < secs s) :
    sectB (crashS s keep torn bytes).B i = sectB s.B i ∨ sectB (crashS s keep torn bytes).B i = readB s i ∨
      (Spec s torn i ∧ ∃ k : Nat, bytes = (k : Int) ∧ k ≤ 512 ∧ (sectB (crashS s keep torn bytes).B i).take k = (readB s i).take k ∧ (sectB (crashS s keep torn bytes).B i).drop k = (sectB s.B i).drop k) := by
  have hsl : (sectB s.B i).length = 512 := sectB_len (by have := ok.whole; omega)
  unfold readB
  cases h : lookC s.C i with
  | none => exact .inl (settle_none ok.whole ok.rows _ (Nat.le_refl _) (fun j hj _ => look_off h j hj))
  | some l =>
    obtain ⟨j, hj, rfl, rfl⟩ := look_place h
    have h1 := settle_some (f := keptN keep torn bytes) ok.whole ok.rows ok.once hj _ (Nat.le_refl _) hj
    have h2 := (ok.rows _ (List.getElem_mem hj)).2
    have h3 : sectB (crashS s keep torn bytes).B s.C[j].1 = s.C[j].2.take (keptN keep torn bytes j) ++ (sectB s.B s.C[j].1).drop (s.C[j].2.take (keptN keep torn bytes j)).length := h1
    rw [List.length_take, h2, Nat.min_eq_left (keptN_le keep torn bytes j)] at h3
    rw [h3]
    have hk : keptN keep torn bytes j = 0 ∨ keptN keep torn bytes j = 512 ∨ ((j : Int) = torn ∧ 0 ≤ bytes ∧ bytes ≤ 512 ∧ keptN keep torn bytes j = bytes.toNat) := by
      unfold keptN
      split
      · rename_i hc
        exact .inr (.inr ⟨hc.1, hc.2.1, hc.2.2, rfl⟩)
      · split
        · exact .inr (.inl rfl)
        · exact .inl rfl
    rcases hk with e | e | ⟨e1, e2, e3, e4⟩
    · rw [e]
      exact .inl (by simp)
    · rw [e, List.take_of_length_le (by omega), List.drop_of_length_le (by omega), List.append_nil]
      exact .inr (.inl rfl)
    · refine .inr (.inr ⟨⟨j, hj, e1, rfl⟩, bytes.toNat, by omega, by omega, ?_, ?_⟩)
      · rw [e4, List.take_append, List.length_take, h2, Nat.min_eq_left (by omega), Nat.sub_self, List.take_zero, List.append_nil, List.take_take, Nat.min_self]
        rfl
      · rw [e4, List.drop_append, List.length_take, h2, Nat.min_eq_left (by omega), Nat.sub_self, List.drop_zero, List.drop_of_length_le (by rw [List.length_take]; omega), List.nil_append]
theorem read_write (s : St) (n i : Nat) (l : List UInt8) : readB (writeS s n l) i = if n = i then l else readB s i := by
  unfold readB writeS
  simp only [lookC_put]
  split <;> rfl
end Go.Proofs.Ytmfcckmcbmlhmaa
