/-
  Package sector: a disk's parts set anew; 'fails', New, Of, Image, Cached by their contracts. Conditions: none but that the disk lies there.
-/
import Derived.Test.YtmfcckmcbmlhmaaSecC
namespace Go.Proofs.Ytmfcckmcbmlhmaa
open Go.RowKit Go.Maps
set_option maxRecDepth 100000

theorem tag_ne {w : World} {a b : Nat} {x y : Array Value} {t u : TypeId} {f f' : Nat × Nat} (ha : w.heap[a]? = some (.cells x t f)) (hb : w.heap[b]? = some (.cells y u f')) (h : t ≠ u) : a ≠ b := by
  rintro rfl
  rw [ha] at hb
  injection hb with hb
  injection hb with _ hb _
  exact h hb
theorem map_ne {w : World} {m b n : Nat} {D : DataW Unit} {y : Array Value} {u : TypeId} {f' : Nat × Nat} (ha : w.ownsMap Try.prog 3 rowE m n D) (hb : w.heap[b]? = some (.cells y u f')) : m ≠ b := by
  rintro rfl
  obtain ⟨es, clock, h, _⟩ := ha
  rw [h] at hb
  cases hb
theorem heap_cell_other {w : World} {g k i : Nat} {v : Value} (h : i ≠ g) : (w.setCell ⟨g, k, none⟩ v).heap[i]? = w.heap[i]? := Below.heap_setCell _ _ _ _ h
section
variable {w : World} {g ib ic m : Nat} {s : St} {vo vf : Value} {D : DataW Unit}
theorem DskAt.ib_g (h : DskAt w g s ib ic m vo vf D) : ib ≠ g := by
  obtain ⟨cur, hc⟩ := ownsRow_block h.img (k := ib) rfl
  exact tag_ne hc h.obj (by decide)
theorem DskAt.m_g (h : DskAt w g s ib ic m vo vf D) : m ≠ g := map_ne h.mp h.obj
theorem DskAt.m_ib (h : DskAt w g s ib ic m vo vf D) : m ≠ ib := by
  obtain ⟨cur, hc⟩ := ownsRow_block h.img (k := ib) rfl
  exact map_ne h.mp hc
theorem DskAt.o_g (h : DskAt w g s ib ic m vo vf D) {k : Nat} (hk : vo.ownBlock = some k) : k ≠ g := by
  obtain ⟨cur, hc⟩ := ownsRow_block h.ord hk
  exact tag_ne hc h.obj (by decide)
theorem DskAt.o_ib (h : DskAt w g s ib ic m vo vf D) {k : Nat} (hk : vo.ownBlock = some k) : k ≠ ib := by
  obtain ⟨cur, hc⟩ := ownsRow_block h.ord hk
  obtain ⟨cur', hc'⟩ := ownsRow_block h.img (k := ib) rfl
  exact tag_ne hc hc' (by decide)
theorem DskAt.o_m (h : DskAt w g s ib ic m vo vf D) {k : Nat} (hk : vo.ownBlock = some k) : k ≠ m := by
  obtain ⟨cur, hc⟩ := ownsRow_block h.ord hk
  exact (map_ne h.mp hc).symm
theorem Flt.block {F : Option Nat} {f : Nat} (h : Flt w vf F) (hf : ptrBlock vf = some f) : ∃ n, vf = .pointer (some ⟨f, 0, none⟩) ∧ F = some n ∧ w.heap[f]? = some (.cells #[.int .i64 (n : Int)] 3 (0, 0)) := by
  rcases h with ⟨rfl, _⟩ | ⟨f', n, rfl, h1, h2⟩
  · cases hf
  · simp [ptrBlock] at hf
    subst hf
    exact ⟨n, rfl, h1, h2⟩
theorem DskAt.f_g (h : DskAt w g s ib ic m vo vf D) {f : Nat} (hf : ptrBlock vf = some f) : f ≠ g := by
  obtain ⟨n, _, _, hb⟩ := h.flt.block hf
  exact tag_ne hb h.obj (by decide)
theorem DskAt.f_ib (h : DskAt w g s ib ic m vo vf D) {f : Nat} (hf : ptrBlock vf = some f) : f ≠ ib := by
  obtain ⟨n, _, _, hb⟩ := h.flt.block hf
  obtain ⟨cur', hc'⟩ := ownsRow_block h.img (k := ib) rfl
  exact tag_ne hb hc' (by decide)
theorem DskAt.f_m (h : DskAt w g s ib ic m vo vf D) {f : Nat} (hf : ptrBlock vf = some f) : f ≠ m := by
  obtain ⟨n, _, _, hb⟩ := h.flt.block hf
  exact (map_ne h.mp hb).symm

/-- The fault set anew. -/
theorem DskAt.setF (h : DskAt w g s ib ic m vo vf D) {vf' : Value} {F' : Option Nat} (hF : Flt w vf' F') (hne : ∀ f, ptrBlock vf' = some f → vo.ownBlock ≠ some f) :
    DskAt (w.setCell ⟨g, 3, none⟩ vf') g { s with F := F' } ib ic m vo vf' D := by
  refine ⟨?_, ownsRow_same h.img (fun k hk => heap_cell_other ?_), ownsMap_same h.mp (heap_cell_other h.m_g), h.fits, ownsRow_same h.ord (fun k hk => heap_cell_other (h.o_g hk)), hF.same (fun k hk => heap_cell_other ?_), hne⟩
  · have := h.obj
    simp [World.setCell, Array.getElem?_modify, this]
  · simp [Value.ownBlock] at hk
    exact hk ▸ h.ib_g
  · obtain ⟨n, _, _, hb⟩ := hF.block hk
    exact tag_ne hb h.obj (by decide)
theorem DskAt.count (h : DskAt w g s ib ic m vo vf D) {f : Nat} (hf : vf = .pointer (some ⟨f, 0, none⟩)) (k : Nat) :
    DskAt (w.setCell ⟨f, 0, none⟩ (.int .i64 (k : Int))) g { s with F := some k } ib ic m vo vf D := by
  subst hf
  refine ⟨(heap_cell_other (h.f_g rfl).symm).trans h.obj, ownsRow_same h.img (fun i hi => heap_cell_other ?_), ownsMap_same h.mp (heap_cell_other (h.f_m rfl).symm), h.fits, ownsRow_same h.ord (fun i hi => heap_cell_other ?_), .inr ⟨f, k, rfl, rfl, ?_⟩, h.apart⟩
  · simp [Value.ownBlock] at hi
    exact hi ▸ (h.f_ib rfl).symm
  · intro e
    exact h.apart f rfl (e ▸ hi)
  · obtain ⟨n', _, _, hb⟩ := h.flt.block (f := f) rfl
    simp [World.setCell, Array.getElem?_modify, hb]
end

theorem setCell_size (w : World) (a : Addr) (v : Value) : (w.setCell a v).heap.size = w.heap.size := by simp [World.setCell]

/-- What 'fails' leaves. -/
def Failed (w : World) (S : Nat → Prop) (g : Nat) (s : St) (e : Ending) (w' : World) : Prop := e = .returned (.bool (blows s.F)) ∧ Dsk w' S g (tick s) ∧ Trn S w w' ∧ w'.heap.size = w.heap.size
set_option maxHeartbeats 1000000 in
theorem fails_is (w : World) (S : Nat → Prop) (g : Nat) (s : St) (h : Dsk w S g s) :
    Calls Try.prog 42 #[.pointer (some ⟨g, 0, none⟩)] w (Failed w S g s) := by
  have H := Lib.hid h
  obtain ⟨ib, ic, m, vo, vf, D, ha, F, ok⟩ := h
  obtain ⟨c0, c1, c2, c3, f1, f2, f3⟩ := obj_cells ha.obj
  have HA := Lib.hid ha
  have HF := Lib.hid F
  have HO := Lib.hid ok
  rcases ha.flt with ⟨rfl, hF⟩ | ⟨f, n, rfl, hF, hb⟩
  · have e1 : tick s = s := by
      obtain ⟨B, C, F0⟩ := s
      simp at hF
      subst hF
      rfl
    clear ha F ok
    go_enter Try.func42, Try.ntmps42
    go_wp2_with fail
    go_ret
    exact ⟨by rw [hF]; rfl, by rw [e1]; exact H.out, Trn.refl _ _, rfl⟩
  · have d0 : w.cell? ⟨f, 0, none⟩ = some (.int .i64 (n : Int)) := by rw [cell_of_row _ _ _ _ _ _ hb]; rfl
    have d1 : w.frozen? ⟨f, 0, none⟩ = false := by simp [World.frozen?, hb]
    have hfm := ok.fuse n hF
    clear ha F ok hb
    cases n with
    | zero =>
      go_enter Try.func42, Try.ntmps42
      go_wp2_with fail
      go_ret
      refine ⟨by rw [hF]; rfl, ⟨ib, ic, m, vo, .pointer none, D, ?_, ⟨HF.out.g, HF.out.ib, HF.out.m, HF.out.o, fun k hk => (by cases hk), fun k hk => by rw [setCell_size]; exact HF.out.lt k hk⟩, HO.out.tick⟩, (Trn.refl S w).setCell _ (fun _ => HF.out.g), setCell_size _ _ _⟩
      have := HA.out.setF (vf' := .pointer none) (F' := none) (.inl ⟨rfl, rfl⟩) (fun f hf => by cases hf)
      have e1 : tick s = { s with F := none } := by unfold tick; rw [hF]; rfl
      rw [e1]
      exact this
    | succ n =>
      have hn0 : ((((n + 1 : Nat) : Int)) == 0) = false := by simp; omega
      go_enter Try.func42, Try.ntmps42
      go_wp2_with fail
      go_ret
      have e1 : tick s = { s with F := some n } := by unfold tick; rw [hF]; rfl
      have e2 : ((n + 1 : Nat) : Int) - 1 = (n : Int) := by omega
      refine ⟨by rw [hF]; rfl, ⟨ib, ic, m, vo, _, D, ?_, ⟨HF.out.g, HF.out.ib, HF.out.m, HF.out.o, HF.out.f, fun k hk => by rw [setCell_size]; exact HF.out.lt k hk⟩, HO.out.tick⟩, (Trn.refl S w).setCell _ (fun _ => HF.out.f f rfl), setCell_size _ _ _⟩
      rw [e1]
      have := HA.out.count rfl n
      first | exact this | (simpa using this) | (rw [← e2] at this; exact this)
end Go.Proofs.Ytmfcckmcbmlhmaa
