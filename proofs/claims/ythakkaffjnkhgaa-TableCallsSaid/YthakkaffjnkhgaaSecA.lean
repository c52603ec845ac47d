/-
  A disk of sectors as plain lists: the disk's bytes, the cache in its order, how many operations till the fault. Conditions: none.
-/
import Derived.Test.YthakkaffjnkhgaaMade
import Derived.Laws.CopyOwn
import Derived.Maps.OwnSet
namespace Go.Proofs.Ythakkaffjnkhgaa
open Go.RowKit
set_option maxRecDepth 100000

abbrev Cch := List (Nat × List UInt8)
def lookC : Cch → Nat → Option (List UInt8)
  | [], _ => none
  | (m, l) :: C, n => if m = n then some l else lookC C n
def putC : Cch → Nat → List UInt8 → Cch
  | [], n, l => [(n, l)]
  | (m, x) :: C, n, l => if m = n then (m, l) :: C else (m, x) :: putC C n l
def keysC (C : Cch) : List Nat := C.map Prod.fst
theorem keysC_len (C : Cch) : (keysC C).length = C.length := by simp [keysC]

theorem lookC_put (C : Cch) (n m : Nat) (l : List UInt8) : lookC (putC C n l) m = if n = m then some l else lookC C m := by
  induction C with
  | nil => rfl
  | cons x C ih =>
    obtain ⟨a, y⟩ := x
    unfold putC
    by_cases h : a = n
    · subst h
      rw [if_pos rfl]
      simp only [lookC]
      split <;> rfl
    · rw [if_neg h]
      simp only [lookC]
      rw [ih]
      by_cases h2 : a = m
      · subst h2
        rw [if_pos rfl, if_neg (fun e => h e.symm)]
        simp
      · rw [if_neg h2, if_neg h2]
theorem put_has {C : Cch} {n : Nat} (l : List UInt8) {x : List UInt8} (h : lookC C n = some x) : keysC (putC C n l) = keysC C := by
  induction C with
  | nil => cases h
  | cons y C ih =>
    obtain ⟨a, z⟩ := y
    unfold putC
    unfold lookC at h
    by_cases ha : a = n
    · rw [if_pos ha]; rfl
    · rw [if_neg ha]
      rw [if_neg ha] at h
      show a :: keysC (putC C n l) = a :: keysC C
      rw [ih h]
theorem put_new {C : Cch} {n : Nat} (l : List UInt8) (h : lookC C n = none) : putC C n l = C ++ [(n, l)] := by
  induction C with
  | nil => rfl
  | cons y C ih =>
    obtain ⟨a, z⟩ := y
    unfold putC
    unfold lookC at h
    by_cases ha : a = n
    · rw [if_pos ha] at h; cases h
    · rw [if_neg ha] at h ⊢
      rw [ih h]; rfl
theorem put_len_has {C : Cch} {n : Nat} (l : List UInt8) {x : List UInt8} (h : lookC C n = some x) : (putC C n l).length = C.length := by
  rw [← keysC_len, put_has l h, keysC_len]
theorem lookC_none {C : Cch} {n : Nat} (h : lookC C n = none) : n ∉ keysC C := by
  induction C with
  | nil => simp [keysC]
  | cons y C ih =>
    obtain ⟨a, z⟩ := y
    unfold lookC at h
    by_cases ha : a = n
    · rw [if_pos ha] at h; cases h
    · rw [if_neg ha] at h
      intro hm
      rcases List.mem_cons.1 hm with e | e
      · exact ha e.symm
      · exact ih h e
theorem lookC_at {C : Cch} (hd : (keysC C).Nodup) (i : Nat) (hi : i < C.length) : lookC C C[i].1 = some C[i].2 := by
  induction C generalizing i with
  | nil => simp at hi
  | cons y C ih =>
    obtain ⟨a, z⟩ := y
    have hd' : a ∉ keysC C ∧ (keysC C).Nodup := List.nodup_cons.1 hd
    cases i with
    | zero => simp [lookC]
    | succ i =>
      have hi' : i < C.length := by simpa using hi
      have hmem : C[i].1 ∈ keysC C := List.mem_map_of_mem (List.getElem_mem hi')
      show lookC ((a, z) :: C) C[i].1 = some C[i].2
      unfold lookC
      rw [if_neg (fun e : a = C[i].1 => hd'.1 (e ▸ hmem))]
      exact ih hd'.2 i hi'
theorem put_nodup {C : Cch} {n : Nat} {l : List UInt8} (hd : (keysC C).Nodup) : (keysC (putC C n l)).Nodup := by
  cases h : lookC C n with
  | some x => rw [put_has l h]; exact hd
  | none =>
    rw [put_new l h]
    show (List.map Prod.fst (C ++ [(n, l)])).Nodup
    rw [List.map_append]
    rw [List.nodup_append]
    refine ⟨hd, by simp, ?_⟩
    intro a ha b hb
    simp at hb
    subst hb
    rintro rfl
    exact lookC_none h ha
def RowsC (k : Nat) (C : Cch) : Prop := ∀ x ∈ C, x.1 < k ∧ x.2.length = 512
theorem put_rows {C : Cch} {k n : Nat} {l : List UInt8} (h : RowsC k C) (hn : n < k) (hl : l.length = 512) : RowsC k (putC C n l) := by
  induction C with
  | nil =>
    intro x hx
    simp [putC] at hx
    subst hx
    exact ⟨hn, hl⟩
  | cons y C ih =>
    obtain ⟨a, z⟩ := y
    have h' : RowsC k C := fun x hx => h x (List.mem_cons_of_mem _ hx)
    have ha := h (a, z) (List.mem_cons_self ..)
    unfold putC
    by_cases hc : a = n
    · rw [if_pos hc]
      intro x hx
      rcases List.mem_cons.1 hx with rfl | e
      · exact ⟨ha.1, hl⟩
      · exact h' x e
    · rw [if_neg hc]
      intro x hx
      rcases List.mem_cons.1 hx with rfl | e
      · exact ha
      · exact ih h' x e
theorem look_row {C : Cch} {k n : Nat} {l : List UInt8} (h : RowsC k C) (hl : lookC C n = some l) : l.length = 512 := by
  induction C with
  | nil => cases hl
  | cons y C ih =>
    obtain ⟨a, z⟩ := y
    unfold lookC at hl
    by_cases ha : a = n
    · rw [if_pos ha] at hl
      injection hl with e
      exact e ▸ (h _ (List.mem_cons_self ..)).2
    · rw [if_neg ha] at hl
      exact ih (fun x hx => h x (List.mem_cons_of_mem _ hx)) hl
theorem nodup_le {k : Nat} : ∀ {l : List Nat}, l.Nodup → (∀ x ∈ l, x < k) → l.length ≤ k := by
  induction k with
  | zero =>
    intro l _ h
    cases l with
    | nil => simp
    | cons x l => exact absurd (h x (List.mem_cons_self ..)) (by omega)
  | succ k ih =>
    intro l hd h
    have h1 : (l.erase k).length ≤ k := ih (hd.erase k) (fun x hx => by
      have := (List.Nodup.mem_erase_iff hd).1 hx
      have := h x this.2
      omega)
    have h2 := List.length_erase (a := k) (l := l)
    split at h2 <;> omega

/-! The disk. -/
structure St where
  B : List UInt8
  C : Cch
  F : Option Nat
def secs (s : St) : Nat := s.B.length / 512
structure OkSt (s : St) : Prop where
  whole : s.B.length = 512 * secs s
  some_ : 0 < secs s
  few : secs s ≤ 32768
  rows : RowsC (secs s) s.C
  once : (keysC s.C).Nodup
  fuse : ∀ n, s.F = some n → n ≤ 9223372036854775807
theorem OkSt.cnt {s : St} (h : OkSt s) : s.C.length ≤ 32768 := by
  have := nodup_le h.once (k := secs s) (fun x hx => by
    obtain ⟨y, hy, rfl⟩ := List.mem_map.1 hx
    exact (h.rows y hy).1)
  rw [keysC_len] at this
  have := h.few
  omega
def blows : Option Nat → Bool
  | some 0 => true
  | _ => false
def tickF : Option Nat → Option Nat
  | some (n + 1) => some n
  | _ => none
def tick (s : St) : St := { s with F := tickF s.F }
theorem secs_tick (s : St) : secs (tick s) = secs s := rfl
theorem OkSt.tick {s : St} (h : OkSt s) : OkSt (tick s) := by
  refine ⟨h.whole, h.some_, h.few, h.rows, h.once, fun n hn => ?_⟩
  cases hF : s.F with
  | none => simp [Go.Proofs.Ythakkaffjnkhgaa.tick, tickF, hF] at hn
  | some k =>
    cases k with
    | zero => simp [Go.Proofs.Ythakkaffjnkhgaa.tick, tickF, hF] at hn
    | succ k =>
      simp [Go.Proofs.Ythakkaffjnkhgaa.tick, tickF, hF] at hn
      have := h.fuse _ hF
      omega
def sectB (B : List UInt8) (n : Nat) : List UInt8 := (B.drop (512 * n)).take 512
theorem sectB_len {B : List UInt8} {n : Nat} (h : 512 * (n + 1) ≤ B.length) : (sectB B n).length = 512 := by
  unfold sectB
  rw [List.length_take, List.length_drop]
  omega
def readB (s : St) (n : Nat) : List UInt8 := (lookC s.C n).getD (sectB s.B n)
theorem readB_len {s : St} (h : OkSt s) {n : Nat} (hn : n < secs s) : (readB s n).length = 512 := by
  unfold readB
  cases hl : lookC s.C n with
  | some l => exact look_row h.rows hl
  | none => exact sectB_len (by have := h.whole; omega)
def writeS (s : St) (n : Nat) (l : List UInt8) : St := { s with C := putC s.C n l }
theorem OkSt.write {s : St} (h : OkSt s) {n : Nat} {l : List UInt8} (hn : n < secs s) (hl : l.length = 512) : OkSt (writeS s n l) :=
  ⟨h.whole, h.some_, h.few, put_rows h.rows hn hl, put_nodup h.once, h.fuse⟩
/-- The disk's bytes, the first k of the cache laid over them, f of each. -/
def settleTo (f : Nat → Nat) (B : List UInt8) (C : Cch) : Nat → List UInt8
  | 0 => B
  | k + 1 => splice (settleTo f B C k) (512 * (C.getD k (0, [])).1) ((C.getD k (0, [])).2.take (f k))
theorem getD_at (C : Cch) (k : Nat) (hk : k < C.length) : C.getD k (0, []) = C[k] := by simp [hk]
theorem settleTo_len (f : Nat → Nat) (B : List UInt8) (C : Cch) (m : Nat) (hB : B.length = 512 * m) (hC : RowsC m C) : ∀ k, k ≤ C.length → (settleTo f B C k).length = B.length := by
  intro k
  induction k with
  | zero => intro _; rfl
  | succ k ih =>
    intro hk
    have hr := hC _ (List.getElem_mem (show k < C.length by omega))
    show (splice _ _ _).length = _
    rw [getD_at C k (by omega), length_splice _ _ _ (by rw [ih (by omega), List.length_take]; omega)]
    exact ih (by omega)
def settleS (f : Nat → Nat) (s : St) : St := { s with B := settleTo f s.B s.C s.C.length, C := [] }
theorem settleS_len {s : St} (f : Nat → Nat) (h : OkSt s) : (settleS f s).B.length = s.B.length := settleTo_len f s.B s.C _ h.whole h.rows _ (Nat.le_refl _)
theorem secs_settle {s : St} (f : Nat → Nat) (h : OkSt s) : secs (settleS f s) = secs s := by unfold secs; rw [settleS_len f h]
theorem OkSt.settle {s : St} (f : Nat → Nat) (h : OkSt s) : OkSt (settleS f s) :=
  ⟨by rw [settleS_len f h, secs_settle f h]; exact h.whole, by rw [secs_settle f h]; exact h.some_, by rw [secs_settle f h]; exact h.few, fun x hx => (by cases hx), List.nodup_nil, h.fuse⟩
def failS (s : St) (a : Int) : St := { s with F := if a < 0 then none else some a.toNat }
theorem OkSt.fail {s : St} (h : OkSt s) {a : Int} (ha : a ≤ 9223372036854775807) : OkSt (failS s a) := by
  refine ⟨h.whole, h.some_, h.few, h.rows, h.once, fun n hn => ?_⟩
  simp only [failS] at hn
  split at hn
  · cases hn
  · injection hn with e; omega
/-- How many first bytes a crash keeps at a place. -/
def keptN (keep : List Bool) (torn bytes : Int) (k : Nat) : Nat := if (k : Int) = torn ∧ 0 ≤ bytes ∧ bytes ≤ 512 then bytes.toNat else if keep.getD k false then 512 else 0
theorem keptN_le (keep : List Bool) (torn bytes : Int) (k : Nat) : keptN keep torn bytes k ≤ 512 := by
  unfold keptN
  split
  · omega
  · split <;> omega
def crashS (s : St) (keep : List Bool) (torn bytes : Int) : St := { settleS (keptN keep torn bytes) s with F := none }
theorem OkSt.crash {s : St} (h : OkSt s) (keep : List Bool) (torn bytes : Int) : OkSt (crashS s keep torn bytes) :=
  have k := h.settle (keptN keep torn bytes)
  ⟨k.whole, k.some_, k.few, k.rows, k.once, fun n hn => by cases hn⟩
def newS (n : Nat) : St := ⟨List.replicate (512 * n) 0, [], none⟩
theorem secs_new (n : Nat) : secs (newS n) = n := by simp [secs, newS]
theorem OkSt.new {n : Nat} (h0 : 0 < n) (h1 : n ≤ 32768) : OkSt (newS n) :=
  ⟨by rw [secs_new]; simp [newS], by rw [secs_new]; exact h0, by rw [secs_new]; exact h1, fun x hx => (by cases hx), List.nodup_nil, fun n hn => by cases hn⟩
def ofS (b : List UInt8) : St := ⟨b, [], none⟩
theorem OkSt.of {b : List UInt8} (h0 : 0 < b.length) (h1 : b.length % 512 = 0) (h2 : b.length ≤ 16777216) : OkSt (ofS b) :=
  ⟨by unfold secs; show b.length = 512 * (b.length / 512); omega, by unfold secs; show 0 < b.length / 512; omega, by unfold secs; show b.length / 512 ≤ 32768; omega, fun x hx => (by cases hx), List.nodup_nil, fun n hn => by cases hn⟩
end Go.Proofs.Ythakkaffjnkhgaa
