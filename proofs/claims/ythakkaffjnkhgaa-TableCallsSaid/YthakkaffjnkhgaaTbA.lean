/-
  Plain tables: where a logical page stands, what stands first, noughts at the end left out. Conditions: none.
-/
import Derived.Test.YthakkaffjnkhgaaNum2
namespace Go.Proofs.Ythakkaffjnkhgaa
set_option maxRecDepth 100000
set_option linter.unusedVariables false
set_option linter.unusedSimpArgs false

def atZ (zs : List Int) (j : Nat) : Int := zs.getD j 0
theorem atZ_lt {zs : List Int} {j : Nat} (h : j < zs.length) : atZ zs j = zs[j] := by unfold atZ; simp [h]
theorem atZ_ge {zs : List Int} {j : Nat} (h : zs.length ≤ j) : atZ zs j = 0 := by unfold atZ; simp [List.getD_eq_getElem?_getD, List.getElem?_eq_none h]
theorem atZ_in {zs : List Int} {j : Nat} (h : atZ zs j ≠ 0) : j < zs.length := by
  rcases Nat.lt_or_ge j zs.length with h' | h'
  · exact h'
  · exact absurd (atZ_ge h') h
theorem atZ_cons (z : Int) (zs : List Int) (j : Nat) : atZ (z :: zs) (j + 1) = atZ zs j := by simp [atZ]
theorem atZ_head (z : Int) (zs : List Int) : atZ (z :: zs) 0 = z := by simp [atZ]
theorem atZ_take {zs : List Int} {k j : Nat} (h : j < k) : atZ (zs.take k) j = atZ zs j := by
  unfold atZ
  simp only [List.getD_eq_getElem?_getD, List.getElem?_take, h, if_true]
theorem atZ_app {zs ys : List Int} {j : Nat} (h : j < zs.length) : atZ (zs ++ ys) j = atZ zs j := by
  unfold atZ
  simp only [List.getD_eq_getElem?_getD, List.getElem?_append_left h]
theorem atZ_set {zs : List Int} {n : Nat} (p : Int) (h : n < zs.length) (j : Nat) : atZ (zs.set n p) j = if j = n then p else atZ zs j := by
  unfold atZ
  simp only [List.getD_eq_getElem?_getD]
  by_cases e : j = n
  · subst e
    simp [h]
  · rw [List.getElem?_set_ne (fun e' => e e'.symm), if_neg e]
theorem atZ_ext {zs ys : List Int} (hl : zs.length = ys.length) (h : ∀ j, atZ zs j = atZ ys j) : zs = ys := by
  apply List.ext_getElem hl
  intro j h1 h2
  rw [← atZ_lt h1, ← atZ_lt h2]
  exact h j

def trimN : List Int → Nat
  | [] => 0
  | z :: zs => if trimN zs = 0 ∧ z = 0 then 0 else trimN zs + 1
theorem trimN_le (zs : List Int) : trimN zs ≤ zs.length := by
  induction zs with
  | nil => simp [trimN]
  | cons z zs ih =>
    unfold trimN
    split
    · simp
    · simp; exact ih
theorem trimN_is (zs : List Int) : ∀ k, k ≤ zs.length → (∀ j, k ≤ j → atZ zs j = 0) → (0 < k → atZ zs (k - 1) ≠ 0) → trimN zs = k := by
  induction zs with
  | nil =>
    intro k hk _ _
    simp at hk
    simp [trimN, hk]
  | cons z zs ih =>
    intro k hk h1 h2
    match k with
    | 0 =>
      have e : trimN zs = 0 := ih 0 (by omega) (fun j _ => by have := h1 (j + 1) (by omega); rwa [atZ_cons] at this) (by omega)
      have e' : z = 0 := by have := h1 0 (by omega); rwa [atZ_head] at this
      simp [trimN, e, e']
    | 1 =>
      have e : trimN zs = 0 := ih 0 (by omega) (fun j _ => by have := h1 (j + 1) (by omega); rwa [atZ_cons] at this) (by omega)
      have e' : z ≠ 0 := by have := h2 (by omega); rwa [atZ_head] at this
      simp [trimN, e, e']
    | k + 2 =>
      have e : trimN zs = k + 1 := ih (k + 1) (by simp at hk; omega) (fun j hj => by have := h1 (j + 1) (by omega); rwa [atZ_cons] at this) (fun _ => by
        have := h2 (by omega)
        rw [show k + 2 - 1 = k + 1 by omega, atZ_cons] at this
        exact this)
      simp [trimN, e]
theorem trimN_zero (zs : List Int) : ∀ j, trimN zs ≤ j → atZ zs j = 0 := by
  induction zs with
  | nil => intro j _; simp [atZ]
  | cons z zs ih =>
    intro j hj
    unfold trimN at hj
    split at hj
    · rename_i h
      match j with
      | 0 => rw [atZ_head]; exact h.2
      | j + 1 => rw [atZ_cons]; exact ih j (by omega)
    · match j with
      | 0 => omega
      | j + 1 => rw [atZ_cons]; exact ih j (by omega)
theorem trimN_last (zs : List Int) : 0 < trimN zs → atZ zs (trimN zs - 1) ≠ 0 := by
  induction zs with
  | nil => intro h; simp [trimN] at h
  | cons z zs ih =>
    intro h
    unfold trimN at h ⊢
    split at h
    · omega
    · rename_i hn
      rw [if_neg hn, Nat.add_sub_cancel]
      by_cases h0 : trimN zs = 0
      · rw [h0, atZ_head]
        exact fun e => hn ⟨h0, e⟩
      · have := ih (by omega)
        rw [show trimN zs = trimN zs - 1 + 1 by omega, atZ_cons]
        exact this
def trimL (zs : List Int) : List Int := zs.take (trimN zs)
theorem trimL_len (zs : List Int) : (trimL zs).length = trimN zs := by
  unfold trimL
  rw [List.length_take]
  have := trimN_le zs
  omega
theorem atZ_trim (zs : List Int) (j : Nat) : atZ (trimL zs) j = atZ zs j := by
  by_cases h : j < trimN zs
  · exact atZ_take h
  · rw [atZ_ge (by rw [trimL_len]; omega), trimN_zero zs j (by omega)]
theorem trimN_trim (zs : List Int) : trimN (trimL zs) = (trimL zs).length := by
  rw [trimL_len]
  refine trimN_is _ _ (by rw [trimL_len]; exact Nat.le_refl _) (fun j hj => by rw [atZ_trim]; exact trimN_zero zs j hj) (fun h => by rw [atZ_trim]; exact trimN_last zs h)
theorem trimL_same {zs : List Int} (h : trimN zs = zs.length) : trimL zs = zs := by
  unfold trimL
  rw [h, List.take_length]
theorem trim_ext {zs ys : List Int} (h1 : trimN zs = zs.length) (h2 : trimN ys = ys.length) (h : ∀ j, atZ zs j = atZ ys j) : zs = ys := by
  refine atZ_ext ?_ h
  rw [← h2]
  symm
  have hz := trimN_is ys zs.length
  rcases Nat.lt_or_ge ys.length zs.length with hl | hl
  · have := trimN_last zs (by omega)
    rw [h1, h, atZ_ge (by omega)] at this
    exact absurd rfl this
  · refine hz hl (fun j hj => by rw [← h, atZ_ge hj]) (fun hp => ?_)
    have := trimN_last zs (by omega)
    rw [h1, h] at this
    exact this

/-- Where a value stands first; the length, if nowhere. -/
def idxZ : List Int → Int → Nat
  | [], _ => 0
  | z :: zs, p => if z = p then 0 else idxZ zs p + 1
theorem idxZ_le (p : Int) (zs : List Int) : idxZ zs p ≤ zs.length := by
  induction zs with
  | nil => simp [idxZ]
  | cons z zs ih =>
    unfold idxZ
    split <;> simp
    exact ih
theorem idxZ_is (p : Int) (zs : List Int) : ∀ k, k ≤ zs.length → (∀ i, i < k → atZ zs i ≠ p) → (k < zs.length → atZ zs k = p) → idxZ zs p = k := by
  induction zs with
  | nil => intro k hk _ _; simp at hk; simp [idxZ, hk]
  | cons z zs ih =>
    intro k hk h1 h2
    unfold idxZ
    match k with
    | 0 =>
      have := h2 (by simp)
      rw [atZ_head] at this
      rw [if_pos this]
    | k + 1 =>
      have h0 := h1 0 (by omega)
      rw [atZ_head] at h0
      rw [if_neg h0, ih k (by simp at hk; omega) (fun i hi => by have := h1 (i + 1) (by omega); rwa [atZ_cons] at this) (fun hl => by have := h2 (by simp; omega); rwa [atZ_cons] at this)]
theorem idxZ_before (p : Int) (zs : List Int) : ∀ i, i < idxZ zs p → atZ zs i ≠ p := by
  induction zs with
  | nil => intro i hi; simp [idxZ] at hi
  | cons z zs ih =>
    intro i hi
    unfold idxZ at hi
    split at hi
    · omega
    · rename_i h
      match i with
      | 0 => rw [atZ_head]; exact h
      | i + 1 => rw [atZ_cons]; exact ih i (by omega)
theorem idxZ_at (p : Int) (zs : List Int) : idxZ zs p < zs.length → atZ zs (idxZ zs p) = p := by
  induction zs with
  | nil => intro h; simp at h
  | cons z zs ih =>
    intro h
    unfold idxZ at h ⊢
    split at h
    · rename_i e; rw [if_pos e, atZ_head]; exact e
    · rename_i e
      rw [if_neg e, atZ_cons]
      exact ih (by simp at h; exact h)
theorem idxZ_none {p : Int} {zs : List Int} (h : ¬ idxZ zs p < zs.length) (j : Nat) (hj : j < zs.length) : atZ zs j ≠ p := idxZ_before p zs j (by omega)

/-- Places that are pages or 0, no page twice. -/
def standK (zs : List Int) (n : Nat) : Prop := ∀ j, j < n → atZ zs j = 0 ∨ (2 ≤ atZ zs j ∧ atZ zs j < 4096) ∧ ∀ i, i < j → atZ zs i ≠ atZ zs j
instance (zs : List Int) (n : Nat) : Decidable (standK zs n) := by unfold standK; exact inferInstance
def standZ (zs : List Int) : Prop := standK zs zs.length
instance (zs : List Int) : Decidable (standZ zs) := by unfold standZ; exact inferInstance
theorem standK_succ (zs : List Int) (n : Nat) : standK zs (n + 1) ↔ standK zs n ∧ (atZ zs n = 0 ∨ (2 ≤ atZ zs n ∧ atZ zs n < 4096) ∧ ∀ i, i < n → atZ zs i ≠ atZ zs n) := by
  unfold standK
  constructor
  · exact fun h => ⟨fun j hj => h j (by omega), h n (by omega)⟩
  · intro h j hj
    by_cases e : j = n
    · subst e; exact h.2
    · exact h.1 j (by omega)
theorem standK_mono {zs : List Int} {n m : Nat} (h : standK zs n) (hm : m ≤ n) : standK zs m := fun j hj => h j (by omega)
theorem standZ_page {zs : List Int} (h : standZ zs) {j : Nat} (h0 : atZ zs j ≠ 0) : 2 ≤ atZ zs j ∧ atZ zs j < 4096 := by
  rcases h j (atZ_in h0) with e | e
  · exact absurd e h0
  · exact e.1
theorem standZ_once {zs : List Int} (h : standZ zs) {i j : Nat} (h0 : atZ zs i ≠ 0) (e : atZ zs i = atZ zs j) : i = j := by
  have hi := atZ_in h0
  have hj := atZ_in (e ▸ h0)
  rcases Nat.lt_trichotomy i j with hl | hl | hl
  · rcases h j hj with e' | e'
    · exact absurd (e.trans e') h0
    · exact absurd e (e'.2 i hl)
  · exact hl
  · rcases h i hi with e' | e'
    · exact absurd e' h0
    · exact absurd e.symm (e'.2 j hl)
theorem standZ_mk {zs : List Int} (h1 : ∀ j, atZ zs j ≠ 0 → 2 ≤ atZ zs j ∧ atZ zs j < 4096) (h2 : ∀ i j, atZ zs i ≠ 0 → atZ zs i = atZ zs j → i = j) : standZ zs := by
  intro j hj
  by_cases h0 : atZ zs j = 0
  · exact .inl h0
  · refine .inr ⟨h1 j h0, fun i hi e => ?_⟩
    have := h2 j i h0 e.symm
    omega

/-- A table that may be. -/
def tbOk (zs : List Int) : Prop := zs.length ≤ 65536 ∧ trimN zs = zs.length ∧ standZ zs
instance (zs : List Int) : Decidable (tbOk zs) := by unfold tbOk; exact inferInstance
def pgOk (p : Int) : Prop := 2 ≤ p ∧ p < 4096
instance (p : Int) : Decidable (pgOk p) := by unfold pgOk; exact inferInstance
def getT (zs : List Int) (n : Int) : Int := if tbOk zs ∧ 0 ≤ n then atZ zs n.toNat else 0
def setL (zs : List Int) (n : Nat) (p : Int) : List Int := (zs ++ List.replicate (n + 1 - zs.length) 0).set n p
def setT (zs : List Int) (n p : Int) : List Int × Int :=
  if ¬ tbOk zs ∨ n < 0 ∨ 65536 ≤ n ∨ ¬ pgOk p then ([], 2)
  else if idxZ zs p < zs.length ∧ idxZ zs p ≠ n.toNat then ([], 7)
  else (setL zs n.toNat p, 0)
def clearT (zs : List Int) (n : Int) : List Int × Int :=
  if ¬ tbOk zs then ([], 2) else if getT zs n = 0 then ([], 6) else (trimL (zs.set n.toNat 0), 0)
def freshT (zs : List Int) : Int × Int :=
  if ¬ tbOk zs then (0, 2) else if zs.length = 65536 then (0, 9) else ((idxZ zs 0 : Nat), 0)
def findT (zs : List Int) (p : Int) : Int × Bool :=
  if tbOk zs ∧ pgOk p ∧ idxZ zs p < zs.length then ((idxZ zs p : Nat), true) else (0, false)
def nzB (z : Int) : Bool := decide (z ≠ 0)
def pagesT (zs : List Int) : List Int := if tbOk zs then zs.filter nzB else []
def numsT (zs : List Int) : List UInt8 := zs.flatMap fun z => numB z.toNat
def bytesT (zs : List Int) : List UInt8 × Int := if tbOk zs then (numB zs.length ++ numsT zs, 0) else ([], 2)

theorem setL_len (zs : List Int) (n : Nat) (p : Int) : (setL zs n p).length = max zs.length (n + 1) := by
  unfold setL
  rw [List.length_set, List.length_append, List.length_replicate]
  omega
theorem atZ_setL (zs : List Int) (n : Nat) (p : Int) (j : Nat) : atZ (setL zs n p) j = if j = n then p else atZ zs j := by
  unfold setL
  rw [atZ_set _ (by rw [List.length_append, List.length_replicate]; omega)]
  by_cases e : j = n
  · rw [if_pos e, if_pos e]
  · rw [if_neg e, if_neg e]
    by_cases h : j < zs.length
    · exact atZ_app h
    · rw [atZ_ge (zs := zs) (by omega)]
      unfold atZ
      rw [List.getD_eq_getElem?_getD, List.getElem?_append_right (by omega), List.getElem?_replicate]
      split <;> rfl
theorem setL_trim {zs : List Int} {n : Nat} {p : Int} (h : trimN zs = zs.length) (hp : p ≠ 0) : trimN (setL zs n p) = (setL zs n p).length := by
  rw [setL_len]
  refine trimN_is _ _ (by rw [setL_len]; exact Nat.le_refl _) (fun j hj => ?_) (fun _ => ?_)
  · rw [atZ_setL, if_neg (by omega), atZ_ge (by omega)]
  · rw [atZ_setL]
    by_cases e : max zs.length (n + 1) - 1 = n
    · rw [if_pos e]; exact hp
    · rw [if_neg e, show max zs.length (n + 1) - 1 = trimN zs - 1 by omega]
      exact trimN_last zs (by omega)
/-- Setting keeps a table. -/
theorem setL_ok {zs : List Int} {n : Nat} {p : Int} (h : tbOk zs) (hn : n < 65536) (hp : pgOk p) (hq : ¬ (idxZ zs p < zs.length ∧ idxZ zs p ≠ n)) : tbOk (setL zs n p) := by
  obtain ⟨h1, h2, h3⟩ := h
  have hp0 : p ≠ 0 := by unfold pgOk at hp; omega
  have hone : ∀ j, j ≠ n → atZ zs j ≠ p := by
    intro j hj e
    have hjl := atZ_in (e.symm ▸ hp0)
    have hi : idxZ zs p < zs.length := by
      rcases Nat.lt_or_ge (idxZ zs p) zs.length with h | h
      · exact h
      · exact absurd e (idxZ_none (by omega) j hjl)
    have ha := idxZ_at p zs hi
    have := standZ_once h3 (i := j) (j := idxZ zs p) (e.symm ▸ hp0) (e.trans ha.symm)
    exact hq ⟨hi, by omega⟩
  refine ⟨by rw [setL_len]; omega, setL_trim h2 hp0, standZ_mk (fun j hj => ?_) (fun i j hi e => ?_)⟩
  · rw [atZ_setL] at hj ⊢
    by_cases e : j = n
    · rw [if_pos e] at hj ⊢; exact hp
    · rw [if_neg e] at hj ⊢; exact standZ_page h3 hj
  · rw [atZ_setL] at hi e
    rw [atZ_setL] at e
    by_cases ei : i = n
    · by_cases ej : j = n
      · omega
      · rw [if_pos ei, if_neg ej] at e; exact absurd e.symm (hone j ej)
    · by_cases ej : j = n
      · rw [if_neg ei, if_pos ej] at e; exact absurd e (hone i ei)
      · rw [if_neg ei, if_neg ej] at e
        rw [if_neg ei] at hi
        exact standZ_once h3 hi e
/-- So does clearing. -/
theorem clear_ok {zs : List Int} {n : Nat} (h : tbOk zs) (hn : n < zs.length) : tbOk (trimL (zs.set n 0)) := by
  obtain ⟨h1, h2, h3⟩ := h
  have ha : ∀ j, atZ (trimL (zs.set n 0)) j = if j = n then 0 else atZ zs j := fun j => by rw [atZ_trim, atZ_set _ hn]
  refine ⟨?_, trimN_trim _, standZ_mk (fun j hj => ?_) (fun i j hi e => ?_)⟩
  · rw [trimL_len]
    have := trimN_le (zs.set n 0)
    rw [List.length_set] at this
    omega
  · rw [ha] at hj ⊢
    by_cases e : j = n
    · rw [if_pos e] at hj; exact absurd rfl hj
    · rw [if_neg e] at hj ⊢; exact standZ_page h3 hj
  · rw [ha] at hi e
    rw [ha] at e
    by_cases ei : i = n
    · rw [if_pos ei] at hi; exact absurd rfl hi
    · rw [if_neg ei] at hi e
      by_cases ej : j = n
      · rw [if_pos ej] at e; exact absurd e hi
      · rw [if_neg ej] at e; exact standZ_once h3 hi e
theorem tbOk_nil : tbOk [] := by decide +kernel
theorem idxZ_of {zs : List Int} (h : tbOk zs) {j : Nat} {p : Int} (h0 : p ≠ 0) (e : atZ zs j = p) : idxZ zs p = j := by
  subst e
  have hj := atZ_in h0
  exact idxZ_is _ zs j (by omega) (fun i hi e => by have := standZ_once h.2.2 h0 e.symm; omega) (fun _ => rfl)
end Go.Proofs.Ythakkaffjnkhgaa
