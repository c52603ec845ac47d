/-
  Package pool: Clean, Flush, Reset, New by their contracts, and a pool that nobody made. Conditions: none but that the pool (the disk) lies there.
-/
import Derived.Test.YtknagdbhhfelnaaDoorCPlG
import Derived.Test.YtknagdbhhfelnaaDoorCFlt
import Derived.Test.YtknagdbhhfelnaaDoorMg3
namespace Go.Proofs.YtknagdbhhfelnaaDoor
open Go.RowKit Go.Maps
set_option maxRecDepth 100000

/-- Frames saved, k of them left. -/
def cleanI : Nat → PSt → Nat × PSt
  | 0, P => (0, P)
  | k + 1, P => if (saveQ P (P.fr.length - (k + 1))).1 = 0 then cleanI k (saveQ P (P.fr.length - (k + 1))).2 else saveQ P (P.fr.length - (k + 1))
def cleanQ (P : PSt) : Nat × PSt := cleanI P.fr.length P
def flushQ (P : PSt) : Nat × PSt := if (cleanQ P).1 = 0 then ((flushR (cleanQ P).2.s).1, ⟨(cleanQ P).2.fr, (cleanQ P).2.hand, (flushR (cleanQ P).2.s).2⟩) else cleanQ P
def resetQ (P : PSt) : Nat × PSt := (0, ⟨List.replicate P.fr.length zeroF, 0, P.s⟩)
def newQ (s : St) (n : Nat) : PSt := ⟨List.replicate n zeroF, 0, s⟩
theorem flat_is (l : List (Fr × Value)) : flat l = l.flatMap (fun x => frL x.1 x.2) := by
  induction l with
  | nil => rfl
  | cons x l ih => rw [flat, ih, List.flatMap_cons]
section
variable {w w' : World} {S T : Nat → Prop} {p d fb hand : Nat} {l : List (Fr × Value)} {s : St}
def CleanRel (w : World) (T : Nat → Prop) (p d fb n : Nat) (P : PSt) (i : Value) (wr : World) : Prop := ∃ (k : Nat) (Q : PSt), k ≤ n ∧ i = .int .i64 (k : Int) ∧ PAt wr (more T w wr) p d fb Q ∧ Trn T w wr ∧ Q.fr.length = n ∧ cleanI n P = cleanI (n - k) Q
theorem zeros_frames (n : Nat) : (Builtin.zeroCells (Value.agg (frL zeroF (.slice none 0 0)).toArray).cells n).toList = flat (List.replicate n (zeroF, .slice none 0 0)) := by
  rw [flat_is]
  unfold Builtin.zeroCells
  exact fm_made (m := 6) (g := fun x : Fr × Value => frL x.1 x.2) (fun _ => rfl) (by omega) (zeroF, .slice none 0 0) n
theorem made_frames (n : Nat) : (madeCells (Value.agg (frL zeroF (.slice none 0 0)).toArray).cells (n * 6)).toList = flat (List.replicate n (zeroF, .slice none 0 0)) := by
  rw [flat_is]
  unfold madeCells
  exact fm_made (m := 6) (g := fun x : Fr × Value => frL x.1 x.2) (fun _ => rfl) (by omega) (zeroF, .slice none 0 0) n
theorem run_clearF (h : PAtL w S T p d fb l hand s) (ty : TypeId) : (Builtin.clear_ #[74] ty #[.slice (some ⟨fb, 0, none⟩) l.length l.length]).run Tryd.prog w = .ok (.tuple #[]) (w.setRow fb (flat (List.replicate l.length (zeroF, .slice none 0 0))).toArray) := by
  have hu := Tryd.underlying74
  have hl : (flat (List.replicate l.length ((zeroF, .slice none 0 0) : Fr × Value))).length = 6 * l.length := by rw [flat_len, List.length_replicate]
  have h1 : ∀ v ∈ flat (List.replicate l.length ((zeroF, .slice none 0 0) : Fr × Value)), v.oneCell' = true := by
    rw [flat_is]
    intro v hv
    obtain ⟨x, hx, hv⟩ := List.mem_flatMap.1 hv
    obtain ⟨_, rfl⟩ := List.mem_replicate.1 hx
    exact frL_one (w := w) (zeroF, .slice none 0 0) (Byt.nil w) v hv
  have hst := storeCells_at (P := Tryd.prog) fb 0 _ (flat (List.replicate l.length (zeroF, .slice none 0 0))) 0 _ w h.blk (by rw [hl, List.size_toArray, flat_len]; omega) h1
  rw [putAll_all _ _ (by rw [hl, List.size_toArray, flat_len])] at hst
  obtain ⟨m, hm⟩ : ∃ m, l.length = m + 1 := ⟨l.length - 1, by have := h.n8; omega⟩
  rw [hm] at hst ⊢
  have hz : (Builtin.zeroCells (Value.agg #[.bool false, .int .i64 0, .int .i64 0, .bool false, .bool false, .slice none 0 0]).cells (m + 1)).toList = flat (List.replicate (m + 1) (zeroF, .slice none 0 0)) := zeros_frames (m + 1)
  simp [Builtin.clear_, run_underlying hu]
  rw [hz, hst]
  rfl
theorem PAtL.clear (h : PAtL w S T p d fb l hand s) : PAtL (w.setRow fb (flat (List.replicate l.length (zeroF, .slice none 0 0))).toArray) S T p d fb (List.replicate l.length (zeroF, .slice none 0 0)) hand s := by
  have ht := setRow_trn w fb (flat (List.replicate l.length ((zeroF, .slice none 0 0) : Fr × Value))).toArray
  refine ⟨?_, setRow_heap w fb _ _ _ _ h.blk, h.dsk.trn ht (fun k hk e => h.sf (e ▸ hk)), fun x hx => ?_, fun x hx k hk => ?_, h.sT, h.tp, h.tf, h.sp, h.sf, h.pf, fun k hk => Nat.lt_of_lt_of_le (h.lt k hk) ht.size, ?_, ?_, ?_⟩
  · rw [List.length_replicate]
    exact (ht.block p (h.lt p h.tp) h.pf).trans h.obj
  · obtain ⟨_, rfl⟩ := List.mem_replicate.1 hx
    exact Byt.nil _
  · obtain ⟨_, rfl⟩ := List.mem_replicate.1 hx
    cases hk
  · rw [List.length_replicate]; exact h.n8
  · rw [List.length_replicate]; exact h.n256
  · rw [List.length_replicate]; exact h.hd
end
end Go.Proofs.YtknagdbhhfelnaaDoor
