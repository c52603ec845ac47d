/-
  A pool's frames: plain (Fr, PSt, findF), and in memory (PAt, Pool). Conditions: none.
-/
import Derived.Test.YtknagdbhhfelnaaDoorMg7
namespace Go.Proofs.YtknagdbhhfelnaaDoor
open Go.RowKit Go.Maps
set_option maxRecDepth 100000

/-! Plain. -/
structure Fr where
  is : Bool
  page : Int
  pins : Nat
  dirty : Bool
  used : Bool
  b : List UInt8
def zeroF : Fr := ⟨false, 0, 0, false, false, []⟩
instance : Inhabited Fr := ⟨zeroF⟩
structure PSt where
  fr : List Fr
  hand : Nat
  s : St
/-- Which frame is the first that has a property; their number, if none. -/
def firstPl (q : Fr → Bool) : List Fr → Nat
  | [] => 0
  | f :: l => if q f then 0 else firstPl q l + 1
theorem firstPl_le (q : Fr → Bool) : ∀ l, firstPl q l ≤ l.length
  | [] => Nat.le_refl _
  | f :: l => by
    unfold firstPl
    have := firstPl_le q l
    split <;> simp
    omega
theorem firstPl_next (q : Fr → Bool) : ∀ (l : List Fr) (k : Nat), (∀ j (hj : j < l.length), j < k → q l[j] = false) → k ≤ l.length → k ≤ firstPl q l
  | _, 0, _, _ => Nat.zero_le _
  | [], k + 1, _, h => by simp at h
  | f :: l, k + 1, h, hk => by
    unfold firstPl
    rw [if_neg (by have := h 0 (by simp) (by omega); simp at this; simp [this])]
    have := firstPl_next q l k (fun j hj hjk => by have := h (j + 1) (by simpa using hj) (by omega); simpa using this) (by simpa using hk)
    omega
theorem firstPl_at (q : Fr → Bool) : ∀ (l : List Fr) (k : Nat) (hk : k < l.length), (∀ j (hj : j < l.length), j < k → q l[j] = false) → q l[k] = true → firstPl q l = k
  | f :: l, 0, hk, _, h => by simp at h; simp [firstPl, h]
  | f :: l, k + 1, hk, ha, h => by
    unfold firstPl
    rw [if_neg (by have := ha 0 (by simp) (by omega); simp at this; simp [this])]
    rw [firstPl_at q l k (by simpa using hk) (fun j hj hjk => by have := ha (j + 1) (by simpa using hj) (by omega); simpa using this) (by simpa using h)]
theorem firstPl_none (q : Fr → Bool) (l : List Fr) (h : ∀ j (hj : j < l.length), q l[j] = false) : firstPl q l = l.length :=
  Nat.le_antisymm (firstPl_le q l) (firstPl_next q l l.length (fun j hj _ => h j hj) (Nat.le_refl _))
theorem firstPl_yes (q : Fr → Bool) : ∀ (l : List Fr) (h : firstPl q l < l.length), q (l[firstPl q l]'h) = true
  | [], h => by simp at h
  | f :: l, h => by
    by_cases e : q f = true
    · simp [firstPl, e]
    · simp [firstPl, e] at h ⊢
      exact firstPl_yes q l h
theorem firstPl_no (q : Fr → Bool) : ∀ (l : List Fr) (j : Nat) (hj : j < l.length), j < firstPl q l → q l[j] = false
  | [], j, hj, _ => by simp at hj
  | f :: l, j, hj, h => by
    by_cases e : q f = true
    · simp [firstPl, e] at h
    · simp [firstPl, e] at h
      cases j with
      | zero => simpa using e
      | succ j => exact firstPl_no q l j (by simpa using hj) (by omega)
def hasF (x : Int) (f : Fr) : Bool := f.is && decide (f.page = x)
def noneF (f : Fr) : Bool := !f.is
def findF (l : List Fr) (x : Int) : Nat := firstPl (hasF x) l
def emptyF (l : List Fr) : Nat := firstPl noneF l

/-! In memory. -/
def frL (f : Fr) (v : Value) : List Value := [.bool f.is, .int .i64 f.page, .int .i64 (f.pins : Int), .bool f.dirty, .bool f.used, v]
def flat : List (Fr × Value) → List Value
  | [] => []
  | x :: l => frL x.1 x.2 ++ flat l
theorem flat_len : ∀ l, (flat l).length = 6 * l.length
  | [] => rfl
  | x :: l => by rw [flat, List.length_append, flat_len l]; simp [frL]; omega
theorem flat_get : ∀ (l : List (Fr × Value)) (i : Nat) (hi : i < l.length) (j : Nat), j < 6 → (flat l)[i * 6 + j]? = (frL l[i].1 l[i].2)[j]?
  | x :: l, 0, hi, j, hj => by
    rw [flat, List.getElem?_append_left (by simp [frL]; omega)]
    simp
  | x :: l, i + 1, hi, j, hj => by
    rw [flat, List.getElem?_append_right (by simp [frL]; omega)]
    have := flat_get l i (by simpa using hi) j hj
    rw [show (i + 1) * 6 + j - (frL x.1 x.2).length = i * 6 + j by simp [frL]; omega, this]
    simp
theorem flat_set : ∀ (l : List (Fr × Value)) (i : Nat) (hi : i < l.length) (j : Nat) (v : Value) (y : Fr × Value), j < 6 → (frL l[i].1 l[i].2).set j v = frL y.1 y.2 → (flat l).set (i * 6 + j) v = flat (l.set i y)
  | x :: l, 0, hi, j, v, y, hj, h => by
    rw [flat, List.set_append, if_pos (by simp [frL]; omega)]
    simp at h
    simp [flat, ← h]
  | x :: l, i + 1, hi, j, v, y, hj, h => by
    rw [flat, List.set_append, if_neg (by simp [frL]; omega)]
    rw [show (i + 1) * 6 + j - (frL x.1 x.2).length = i * 6 + j by simp [frL]; omega, flat_set l i (by simpa using hi) j v y hj (by simpa using h)]
    simp [flat]
/-- A pool's blocks: p the pool, d its disk, fb its frames. -/
structure PAtL (w : World) (S T : Nat → Prop) (p d fb : Nat) (l : List (Fr × Value)) (hand : Nat) (s : St) : Prop where
  obj : w.heap[p]? = some (.cells #[.pointer (some ⟨d, 0, none⟩), .slice (some ⟨fb, 0, none⟩) l.length l.length, .int .i64 (hand : Int)] 76 (0, 0))
  blk : w.heap[fb]? = some (.cells (flat l).toArray 81 (0, 0))
  dsk : Dsk w S d s
  byt : ∀ x ∈ l, Byt w x.2 x.1.b
  own : ∀ x ∈ l, ∀ k, x.2.ownBlock = some k → T k ∧ ¬ S k ∧ k ≠ p ∧ k ≠ fb
  sT : ∀ k, S k → T k
  tp : T p
  tf : T fb
  sp : ¬ S p
  sf : ¬ S fb
  pf : p ≠ fb
  lt : ∀ k, T k → k < w.heap.size
  n8 : 8 ≤ l.length
  n256 : l.length ≤ 256
  hd : hand < l.length
def PAt (w : World) (T : Nat → Prop) (p d fb : Nat) (P : PSt) : Prop := ∃ S l, PAtL w S T p d fb l P.hand P.s ∧ l.map (·.1) = P.fr
def Pool (w : World) (T : Nat → Prop) (p : Nat) (P : PSt) : Prop := ∃ d fb, PAt w T p d fb P
theorem byt_same {w w' : World} {v : Value} {l : List UInt8} (h : Byt w v l) (hs : w.heap.size ≤ w'.heap.size) (hb : ∀ k, v.ownBlock = some k → w'.heap[k]? = w.heap[k]?) : Byt w' v l := by
  obtain ⟨A, c, rfl, h1, h2, h3⟩ := h
  refine ⟨A, c, rfl, h1, h2, ?_⟩
  rcases h3 with h3 | ⟨b, off, rfl, hlt, hc⟩
  · exact .inl h3
  · refine .inr ⟨b, off, rfl, Nat.lt_of_lt_of_le hlt hs, fun j hj => ?_⟩
    rw [← hc j hj]
    exact World.cell?_of_block (a := ⟨b, off + j, none⟩) (hb b rfl)
section
variable {w w' : World} {S T : Nat → Prop} {p d fb hand : Nat} {l : List (Fr × Value)} {s : St}
theorem PAtL.same (h : PAtL w S T p d fb l hand s) (hs : w.heap.size ≤ w'.heap.size) (hb : ∀ k, T k → w'.heap[k]? = w.heap[k]?) : PAtL w' S T p d fb l hand s :=
  ⟨(hb p h.tp).trans h.obj, (hb fb h.tf).trans h.blk, h.dsk.same hs (fun k hk => hb k (h.sT k hk)),
    fun x hx => byt_same (h.byt x hx) hs (fun k hk => hb k (h.own x hx k hk).1), h.own, h.sT, h.tp, h.tf, h.sp, h.sf, h.pf, fun k hk => Nat.lt_of_lt_of_le (h.lt k hk) hs, h.n8, h.n256, h.hd⟩
theorem PAtL.trn {T' : Nat → Prop} (h : PAtL w S T p d fb l hand s) (ht : Trn T' w w') (hne : ∀ k, T k → ¬ T' k) : PAtL w' S T p d fb l hand s :=
  h.same ht.size fun k hk => ht.block k (h.lt k hk) (hne k hk)
theorem PAtL.below (h : PAtL w S T p d fb l hand s) (hb : Below w.heap.size w w') : PAtL w' S T p d fb l hand s :=
  h.same hb.size fun k hk => hb.block k (h.lt k hk)
/-- What the walk asks of the pool's own cells. -/
theorem PAtL.cells (h : PAtL w S T p d fb l hand s) : w.cell? ⟨p, 0, none⟩ = some (.pointer (some ⟨d, 0, none⟩)) ∧ w.cell? ⟨p, 1, none⟩ = some (.slice (some ⟨fb, 0, none⟩) l.length l.length) ∧ w.cell? ⟨p, 2, none⟩ = some (.int .i64 (hand : Int)) ∧ w.frozen? ⟨p, 2, none⟩ = false := by
  refine ⟨?_, ?_, ?_, by simp [World.frozen?, h.obj]⟩ <;> (rw [cell_of_row _ _ _ _ _ _ h.obj]; rfl)
/-- .. and of a frame's. -/
theorem PAtL.at (h : PAtL w S T p d fb l hand s) {i : Nat} (hi : i < l.length) : w.cell? ⟨fb, i * 6, none⟩ = some (.bool l[i].1.is) ∧ w.cell? ⟨fb, i * 6 + 1, none⟩ = some (.int .i64 l[i].1.page) ∧ w.cell? ⟨fb, i * 6 + 2, none⟩ = some (.int .i64 (l[i].1.pins : Int)) ∧
    w.cell? ⟨fb, i * 6 + 3, none⟩ = some (.bool l[i].1.dirty) ∧ w.cell? ⟨fb, i * 6 + 4, none⟩ = some (.bool l[i].1.used) ∧ w.cell? ⟨fb, i * 6 + 5, none⟩ = some l[i].2 := by
  have hc : ∀ j, j < 6 → w.cell? ⟨fb, i * 6 + j, none⟩ = (frL l[i].1 l[i].2)[j]? := fun j hj => by
    rw [cell_of_row _ _ _ _ _ _ h.blk, List.getElem?_toArray, flat_get l i hi j hj]
  exact ⟨hc 0 (by omega), hc 1 (by omega), hc 2 (by omega), hc 3 (by omega), hc 4 (by omega), hc 5 (by omega)⟩
theorem PAtL.frozen (h : PAtL w S T p d fb l hand s) (j : Nat) : w.frozen? ⟨fb, j, none⟩ = false := by simp [World.frozen?, h.blk]
/-- One of a frame's cells is written. -/
theorem PAtL.put (h : PAtL w S T p d fb l hand s) {i j : Nat} (hi : i < l.length) (hj : j < 6) (v : Value) (y : Fr × Value) (hy : (frL l[i].1 l[i].2).set j v = frL y.1 y.2)
    (hb : Byt w y.2 y.1.b) (ho : ∀ k, y.2.ownBlock = some k → T k ∧ ¬ S k ∧ k ≠ p ∧ k ≠ fb) : PAtL (w.setCell ⟨fb, i * 6 + j, none⟩ v) S T p d fb (l.set i y) hand s := by
  have ht : Trn (fun k => k = fb) w (w.setCell ⟨fb, i * 6 + j, none⟩ v) := (Trn.refl _ _).setCell _ (fun _ => rfl)
  have hl : (l.set i y).length = l.length := List.length_set
  refine ⟨?_, ?_, h.dsk.trn ht (fun k hk e => h.sf (e ▸ hk)), fun x hx => ?_, fun x hx => ?_, h.sT, h.tp, h.tf, h.sp, h.sf, h.pf, fun k hk => Nat.lt_of_lt_of_le (h.lt k hk) ht.size, by rw [hl]; exact h.n8, by rw [hl]; exact h.n256, by rw [hl]; exact h.hd⟩
  · rw [hl]
    exact (ht.block p (h.lt p h.tp) h.pf).trans h.obj
  · rw [← flat_set l i hi j v y hj hy]
    simp [World.setCell, Array.getElem?_modify, h.blk]
  · rcases List.mem_or_eq_of_mem_set hx with hx | rfl
    · exact (h.byt x hx).trn ht (fun k hk => (h.own x hx k hk).2.2.2)
    · exact hb.trn ht (fun k hk => (ho k hk).2.2.2)
  · rcases List.mem_or_eq_of_mem_set hx with hx | rfl
    · exact h.own x hx
    · exact ho
/-- The hand is written. -/
theorem PAtL.setHand (h : PAtL w S T p d fb l hand s) (k : Nat) (hk : k < l.length) : PAtL (w.setCell ⟨p, 2, none⟩ (.int .i64 (k : Int))) S T p d fb l k s := by
  have ht : Trn (fun k => k = p) w (w.setCell ⟨p, 2, none⟩ (.int .i64 (k : Int))) := (Trn.refl _ _).setCell _ (fun _ => rfl)
  refine ⟨?_, (ht.block fb (h.lt fb h.tf) (fun e => h.pf e.symm)).trans h.blk, h.dsk.trn ht (fun k hk e => h.sp (e ▸ hk)), fun x hx => (h.byt x hx).trn ht (fun k hk => (h.own x hx k hk).2.2.1), h.own, h.sT, h.tp, h.tf, h.sp, h.sf, h.pf, fun k hk => Nat.lt_of_lt_of_le (h.lt k hk) ht.size, h.n8, h.n256, hk⟩
  simp [World.setCell, Array.getElem?_modify, h.obj]
/-- The disk was changed by a call. -/
theorem PAtL.disk (h : PAtL w S T p d fb l hand s) {s' : St} (hd : Dsk w' (more S w w') d s') (ht : Trn S w w') : PAtL w' (more S w w') (more T w w') p d fb l hand s' := by
  have hn : ∀ k, k < w.heap.size → ¬ S k → ¬ more S w w' k := fun k hk hs e => e.elim hs (fun e => by omega)
  refine ⟨(ht.block p (h.lt p h.tp) h.sp).trans h.obj, (ht.block fb (h.lt fb h.tf) h.sf).trans h.blk, hd, fun x hx => (h.byt x hx).trn ht (fun k hk => (h.own x hx k hk).2.1),
    fun x hx k hk => ?_, fun k hk => hk.elim (fun e => .inl (h.sT k e)) .inr, .inl h.tp, .inl h.tf, hn p (h.lt p h.tp) h.sp, hn fb (h.lt fb h.tf) h.sf, h.pf, ?_, h.n8, h.n256, h.hd⟩
  · have := h.own x hx k hk
    exact ⟨.inl this.1, hn k (h.lt k this.1) this.2.1, this.2.2⟩
  · exact fun k hk => hk.elim (fun e => Nat.lt_of_lt_of_le (h.lt k e) ht.size) (fun e => e.2)
theorem PAtL.wide (h : PAtL w S T p d fb l hand s) {T' : Nat → Prop} (hT : ∀ k, T k → T' k) (hlt : ∀ k, T' k → k < w.heap.size) : PAtL w S T' p d fb l hand s :=
  ⟨h.obj, h.blk, h.dsk, h.byt, fun x hx k hk => ⟨hT k (h.own x hx k hk).1, (h.own x hx k hk).2⟩, fun k hk => hT k (h.sT k hk), hT p h.tp, hT fb h.tf, h.sp, h.sf, h.pf, hlt, h.n8, h.n256, h.hd⟩
end
end Go.Proofs.YtknagdbhhfelnaaDoor
