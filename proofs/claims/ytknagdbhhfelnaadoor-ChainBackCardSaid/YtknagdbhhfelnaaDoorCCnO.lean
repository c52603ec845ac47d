/-
  Two chains in one pool: the pages that ChainBack gives them, parts of a slice of numbers, what is kept while a pool works. Conditions: none but those named.
-/
import Derived.Test.YtknagdbhhfelnaaDoorCCnM
import Derived.Test.YtknagdbhhfelnaaDoorCPlK
namespace Go.Proofs.YtknagdbhhfelnaaDoor
open Go.ChangeShapes Go.WideShapes Go.ChangeAt Go.RowKit Go.Maps
set_option maxRecDepth 100000
set_option linter.unusedVariables false

/-- The pages that two chains are put on: each of the 28 once, in steps of eleven. -/
def psB (t n : Nat) : List Nat := (List.range n).map fun i => 2 + (i * 11 + t) % 28
theorem psB_len (t n : Nat) : (psB t n).length = n := by simp [psB]
theorem psB_snoc (t n : Nat) : psB t (n + 1) = psB t n ++ [2 + (n * 11 + t) % 28] := by simp [psB, List.range_succ]
theorem psB_nodup (t n : Nat) (h : n ≤ 28) : (psB t n).Nodup := by
  unfold psB
  rw [List.Nodup, List.pairwise_map]
  have h0 : ∀ x ∈ List.range n, x < 28 := fun x hx => by have := List.mem_range.1 hx; omega
  refine List.Pairwise.imp_of_mem ?_ (List.nodup_range (n := n))
  intro a b ha hb hne e
  have := h0 a ha
  have := h0 b hb
  omega
theorem psB_in (t n : Nat) : ∀ x ∈ psB t n, 2 ≤ x ∧ x < 30 := fun x hx => by
  simp only [psB, List.mem_map, List.mem_range] at hx
  obtain ⟨i, hi, rfl⟩ := hx
  omega
theorem psB_take (t n k : Nat) (h : n ≤ 28) : mayP ((psB t n).take k) := ⟨(psB_nodup t n h).sublist (List.take_sublist _ _), fun x hx => by have := psB_in t n x ((List.take_sublist _ _).subset hx); omega⟩
theorem psB_drop (t n k : Nat) (h : n ≤ 28) : mayP ((psB t n).drop k) := ⟨(psB_nodup t n h).sublist (List.drop_sublist _ _), fun x hx => by have := psB_in t n x ((List.drop_sublist _ _).subset hx); omega⟩
theorem psB_apart (t n k : Nat) (h : n ≤ 28) : ∀ x ∈ (psB t n).take k, x ∉ (psB t n).drop k := fun x h1 h2 => by
  have hn := psB_nodup t n h
  rw [← List.take_append_drop k (psB t n)] at hn
  exact (List.nodup_append.1 hn).2.2 x h1 x h2 rfl
theorem natC_take (l : List Nat) (k : Nat) : natC (l.take k) = (natC l).take k := by simp [natC]
theorem natC_drop (l : List Nat) (k : Nat) : natC (l.drop k) = (natC l).drop k := by simp [natC]

theorem getD_in {l : List Nat} {i : Nat} (h : i < l.length) : l.getD i 0 ∈ l := by
  rw [List.getD_eq_getElem?_getD, List.getElem?_eq_getElem h]
  exact List.getElem_mem h
/-- Two chains on pages apart are read, each from its head. -/
theorem two_chains (has : Nat → List UInt8) (ps1 ps2 : List Nat) (a b : List UInt8) (hm1 : mayP ps1) (hm2 : mayP ps2) (hl1 : ps1.length = needN a.length) (hl2 : ps2.length = needN b.length) (hap : ∀ x ∈ ps1, x ∉ ps2) (h1 : ps1.length ≤ 1073741824) (h2 : ps2.length ≤ 1073741824) :
    (∀ f, readT (wroteH (wroteH has 2 ps1 a) 3 ps2 b) 2 f [] [] (ps1.getD 0 0) = if ps1.length ≤ f then some (a, ps1) else none) ∧
    (∀ f, readT (wroteH (wroteH has 2 ps1 a) 3 ps2 b) 3 f [] [] (ps2.getD 0 0) = if ps2.length ≤ f then some (b, ps2) else none) ∧
    (∀ f, readT (wroteH (wroteH has 2 ps1 a) 3 ps2 b) 7 f [] [] (ps1.getD 0 0) = none) := by
  have e1 : ∀ i, i < ps1.length → wroteH (wroteH has 2 ps1 a) 3 ps2 b (ps1.getD i 0) = chainB 2 ps1 a i := fun i hi => by
    rw [wrote_out _ _ _ _ _ (hap _ (getD_in hi))]
    exact wrote_get has 2 ps1 a hm1.1 i hi
  have e2 := wrote_get (wroteH has 2 ps1 a) 3 ps2 b hm2.1
  exact ⟨fun f => read_back (.inl rfl) hm1 hl1 h1 e1 f, fun f => read_back (.inr (.inl rfl)) hm2 hl2 h2 e2 f, fun f => read_other (.inl rfl) hm1 hl1 e1 7 (by omega) f⟩

theorem elemInt : Tryd.prog.underlying 26 = some (.slice (Tryd.prog.elem 26)) := by kernel_rfl
theorem sizeInt : ∀ W, (sizeOf (Tryd.prog.elem 26)).run Tryd.prog W = .ok 1 W := fun _ => by kernel_rfl
theorem ints_from (g m c a : Nat) (ha : a < m) (hc : m ≤ c) : ∀ W, (Instr.slice 26 (.slice (some ⟨g, 0, none⟩) m c) (some (.int .i64 (a : Int))) none none).run Tryd.prog W = .ok (.slice (some ⟨g, a, none⟩) (m - a) (c - a)) W := by
  intro W
  rw [run_slice_l W 26 _ m c elemInt .i64 (a : Int) (by omega) (by omega), sizeInt]
  simp only [Result.andThen, sliced, Int.toNat_natCast]
  rw [if_neg (by omega)]
  simp [plainAdd]
theorem ints_to (g m c a : Nat) (ha : 0 < a) (hm : a ≤ m) (hc : m ≤ c) : ∀ W, (Instr.slice 26 (.slice (some ⟨g, 0, none⟩) m c) none (some (.int .i64 (a : Int))) none).run Tryd.prog W = .ok (.slice (some ⟨g, 0, none⟩) a c) W := by
  intro W
  rw [run_slice_h W 26 _ m c elemInt .i64 (a : Int) (by omega) (by omega), sizeInt]
  simp only [Result.andThen, sliced, Int.toNat_natCast]
  rw [if_neg (by omega)]
  simp [plainAdd]
theorem ownV_part {w : World} {B g n c : Nat} {e : TypeId} {l : List Value} (h : OwnV w B e (.slice (some ⟨g, 0, none⟩) n c) l) (hn : l.length = n) (a k : Nat) (hak : a + k ≤ l.length) (h0 : 0 < l.length) : Rowz w (.slice (some ⟨g, a, none⟩) k (c - a)) ((l.drop a).take k) := by
  have hl : ((l.drop a).take k).length = k := by rw [List.length_take, List.length_drop]; omega
  obtain ⟨g', c', e', hB, hg, hc, hcm, hcell, _⟩ := h.form h0
  cases e'
  refine ⟨_, _, by rw [hl], by rw [hl]; omega, by unfold maxLen; omega, .inr ⟨g, a, rfl, hg, fun j hj => ?_⟩⟩
  rw [hl] at hj
  rw [hcell (a + j) (by omega)]
  congr 1
  simp only [List.getElem_take, List.getElem_drop]

/-- What a pool's work leaves alone: a slice of the call's own, apart from the pool. -/
def Kept (w : World) (T : Nat → Prop) (e : TypeId) (v : Value) (xs : List Value) : Prop := ∃ B, OwnV w B e v xs ∧ ∀ g, v.ownBlock = some g → ¬ T g
theorem Kept.step {w w' : World} {T T' : Nat → Prop} {e : TypeId} {v : Value} {xs : List Value} (h : Kept w T e v xs) (ht : Trn T w w') (hm : ∀ j, T' j → more T w w' j) : Kept w' T' e v xs := by
  obtain ⟨B, h1, h2⟩ := h
  refine ⟨B, ownV_trn h1 ht h2, fun g hg hT => ?_⟩
  have h3 := (World.ownsRow.lt h1 g hg).2
  exact (hm g hT).elim (h2 g hg) (fun e => by omega)
theorem Kept.below {w w' : World} {T : Nat → Prop} {e : TypeId} {v : Value} {xs : List Value} (h : Kept w T e v xs) (hb : Below w.heap.size w w') : Kept w' T e v xs := h.step (Trn.of_below hb) (fun _ h => .inl h)
theorem Kept.rowz {w : World} {T : Nat → Prop} {e : TypeId} {v : Value} {xs : List Value} (h : Kept w T e v xs) : Rowz w v xs := by obtain ⟨B, h1, _⟩ := h; exact h1.rowz
def KeptB (w : World) (T : Nat → Prop) (v : Value) (l : List UInt8) : Prop := ∃ B, Own w B 5 v l ∧ ∀ g, v.ownBlock = some g → ¬ T g
theorem KeptB.step {w w' : World} {T T' : Nat → Prop} {v : Value} {l : List UInt8} (h : KeptB w T v l) (ht : Trn T w w') (hm : ∀ j, T' j → more T w w' j) : KeptB w' T' v l := by
  obtain ⟨B, h1, h2⟩ := h
  refine ⟨B, ownB_trn h1 ht h2, fun g hg hT => ?_⟩
  have h3 := (World.ownsRow.lt h1 g hg).2
  exact (hm g hT).elim (h2 g hg) (fun e => by omega)
theorem KeptB.byt {w : World} {T : Nat → Prop} {v : Value} {l : List UInt8} (h : KeptB w T v l) : Byt w v l := by obtain ⟨B, h1, _⟩ := h; exact h1.byt
/-- Evict of a pool that keeps what it was given. -/
theorem cevict_any {w : World} {T : Nat → Prop} {p d fb n m : Nat} {has : Nat → List UInt8} (h : PlT w T p d fb n m has) (x : Int) :
    Calls Tryd.prog 15 #[.pointer (some ⟨p, 0, none⟩), .int .i64 x] w fun e w' => ∃ y : Int, e = .returned (.int .i64 y) ∧ PlOut w T p d fb n m has w' := by
  obtain ⟨P, hP, hT⟩ := h
  refine (pevict_is hP x).mono ?_
  rintro e w' ⟨rfl, h1, h2⟩
  exact ⟨_, rfl, _, ⟨_, h1, evict_t hT x⟩, fun j hj => hj, h2⟩
end Go.Proofs.YtknagdbhhfelnaaDoor
