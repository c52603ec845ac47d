/-
  The document's disk (tallymanref04) in memory, and its small functions by their contracts: New, Sectors, fails, find, Read, Fail, Cached, Image. Conditions: none but that the disk lies there.
-/
import Derived.Test.YtagchbpofoidmaaDoorSecU
namespace Go.Proofs.YtagchbpofoidmaaDoor
open Go.RowKit Go.Maps
set_option maxRecDepth 100000

/-- How many operations till the fault, as the document's disk keeps it. -/
def fuseI : Option Nat → Int
  | some n => (n : Int)
  | none => -1
structure RefAt (w : World) (g : Nat) (s : St) (ib ic : Nat) (vn vc : Value) (vs : List Value) : Prop where
  obj : w.heap[g]? = some (.cells #[.slice (some ⟨ib, 0, none⟩) s.B.length ic, vn, vc, .int .i64 (fuseI s.F)] 77 (0, 0))
  img : Own w 0 5 (.slice (some ⟨ib, 0, none⟩) s.B.length ic) s.B
  ord : w.ownsRow 0 3 1 vn s.C.length (inz (keysC s.C))
  rows : w.ownsRow 0 22 1 vc s.C.length vs
  each : ∀ j (hj : j < s.C.length) (hv : j < vs.length), Own w 0 5 vs[j] s.C[j].2 ∧ vs[j].ownBlock ≠ some ib
structure RFoot (S : Nat → Prop) (w : World) (g ib : Nat) (vn vc : Value) (vs : List Value) : Prop where
  g : S g
  ib : S ib
  n : ∀ k, vn.ownBlock = some k → S k
  c : ∀ k, vc.ownBlock = some k → S k
  r : ∀ v ∈ vs, ∀ k, v.ownBlock = some k → S k
  lt : ∀ k, S k → k < w.heap.size
def Ref (w : World) (S : Nat → Prop) (g : Nat) (s : St) : Prop := ∃ ib ic vn vc vs, RefAt w g s ib ic vn vc vs ∧ RFoot S w g ib vn vc vs ∧ OkSt s
theorem RefAt.len {w : World} {g ib ic : Nat} {s : St} {vn vc : Value} {vs : List Value} (h : RefAt w g s ib ic vn vc vs) : vs.length = s.C.length := by simpa using h.rows.1
theorem RefAt.same {w w' : World} {S : Nat → Prop} {g ib ic : Nat} {s : St} {vn vc : Value} {vs : List Value} (h : RefAt w g s ib ic vn vc vs) (F : RFoot S w g ib vn vc vs) (hb : ∀ k, S k → w'.heap[k]? = w.heap[k]?) : RefAt w' g s ib ic vn vc vs := by
  refine ⟨(hb g F.g).trans h.obj, ownsRow_same h.img (fun k hk => hb k ?_), ownsRow_same h.ord (fun k hk => hb k (F.n k hk)), ownsRow_same h.rows (fun k hk => hb k (F.c k hk)), fun j hj hv => ⟨ownsRow_same (h.each j hj hv).1 (fun k hk => hb k (F.r _ (List.getElem_mem hv) k hk)), (h.each j hj hv).2⟩⟩
  simp [Value.ownBlock] at hk
  exact hk ▸ F.ib
theorem Ref.same {w w' : World} {S : Nat → Prop} {g : Nat} {s : St} (h : Ref w S g s) (hs : w.heap.size ≤ w'.heap.size) (hb : ∀ k, S k → w'.heap[k]? = w.heap[k]?) : Ref w' S g s := by
  obtain ⟨ib, ic, vn, vc, vs, h, F, ok⟩ := h
  exact ⟨ib, ic, vn, vc, vs, h.same F hb, ⟨F.g, F.ib, F.n, F.c, F.r, fun k hk => Nat.lt_of_lt_of_le (F.lt k hk) hs⟩, ok⟩
theorem Ref.lt {w : World} {S : Nat → Prop} {g : Nat} {s : St} (h : Ref w S g s) : ∀ k, S k → k < w.heap.size := by
  obtain ⟨ib, ic, vn, vc, vs, _, F, _⟩ := h
  exact F.lt
theorem Ref.ok {w : World} {S : Nat → Prop} {g : Nat} {s : St} (h : Ref w S g s) : OkSt s := by
  obtain ⟨ib, ic, vn, vc, vs, _, _, ok⟩ := h
  exact ok
theorem Ref.trn {w w' : World} {S T : Nat → Prop} {g : Nat} {s : St} (h : Ref w S g s) (ht : Trn T w w') (hST : ∀ k, S k → ¬ T k) : Ref w' S g s := h.same ht.size (fun k hk => ht.block k (h.lt k hk) (hST k hk))
theorem Ref.below {w w' : World} {S : Nat → Prop} {g : Nat} {s : St} (h : Ref w S g s) (ht : Below w.heap.size w w') : Ref w' S g s := h.trn (T := fun _ => False) (Trn.of_below ht) (fun _ _ f => f)
theorem Ref.wide {w : World} {S T : Nat → Prop} {g : Nat} {s : St} (h : Ref w S g s) (hT : ∀ k, S k → T k) (hlt : ∀ k, T k → k < w.heap.size) : Ref w T g s := by
  obtain ⟨ib, ic, vn, vc, vs, h, F, ok⟩ := h
  exact ⟨ib, ic, vn, vc, vs, h, ⟨hT _ F.g, hT _ F.ib, fun k hk => hT k (F.n k hk), fun k hk => hT k (F.c k hk), fun v hv k hk => hT k (F.r v hv k hk), hlt⟩, ok⟩
theorem Ref.more {w' w0 : World} {S : Nat → Prop} {g : Nat} {s : St} (h : Ref w' S g s) (hs : w0.heap.size ≤ w'.heap.size) (hl : ∀ k, S k → k < w0.heap.size) : Ref w' (more S w0 w') g s := h.wide (fun _ => .inl) (more_lt hs hl)
theorem robj_cells {w : World} {g : Nat} {a b c d : Value} (h : w.heap[g]? = some (.cells #[a, b, c, d] 77 (0, 0))) :
    w.cell? ⟨g, 0, none⟩ = some a ∧ w.cell? ⟨g, 1, none⟩ = some b ∧ w.cell? ⟨g, 2, none⟩ = some c ∧ w.cell? ⟨g, 3, none⟩ = some d ∧ w.frozen? ⟨g, 1, none⟩ = false ∧ w.frozen? ⟨g, 2, none⟩ = false ∧ w.frozen? ⟨g, 3, none⟩ = false := by
  refine ⟨?_, ?_, ?_, ?_, by simp [World.frozen?, h], by simp [World.frozen?, h], by simp [World.frozen?, h]⟩ <;> (rw [cell_of_row _ _ _ _ _ _ h]; rfl)
section
variable {w : World} {g ib ic : Nat} {s : St} {vn vc : Value} {vs : List Value}
theorem RefAt.ib_g (h : RefAt w g s ib ic vn vc vs) : ib ≠ g := by
  obtain ⟨cur, hc⟩ := ownsRow_block h.img (k := ib) rfl
  exact tag_ne hc h.obj (by decide)
theorem RefAt.n_g (h : RefAt w g s ib ic vn vc vs) {k : Nat} (hk : vn.ownBlock = some k) : k ≠ g ∧ k ≠ ib := by
  obtain ⟨cur, hc⟩ := ownsRow_block h.ord hk
  obtain ⟨cur', hc'⟩ := ownsRow_block h.img (k := ib) rfl
  exact ⟨tag_ne hc h.obj (by decide), tag_ne hc hc' (by decide)⟩
theorem RefAt.c_g (h : RefAt w g s ib ic vn vc vs) {k : Nat} (hk : vc.ownBlock = some k) : k ≠ g ∧ k ≠ ib := by
  obtain ⟨cur, hc⟩ := ownsRow_block h.rows hk
  obtain ⟨cur', hc'⟩ := ownsRow_block h.img (k := ib) rfl
  exact ⟨tag_ne hc h.obj (by decide), tag_ne hc hc' (by decide)⟩
theorem RefAt.c_n (h : RefAt w g s ib ic vn vc vs) {k : Nat} (hk : vc.ownBlock = some k) : vn.ownBlock ≠ some k := by
  intro e
  obtain ⟨cur, hc⟩ := ownsRow_block h.rows hk
  obtain ⟨cur', hc'⟩ := ownsRow_block h.ord e
  exact tag_ne hc hc' (by decide) rfl
theorem RefAt.r_tag (h : RefAt w g s ib ic vn vc vs) {j : Nat} (hj : j < s.C.length) (hv : j < vs.length) {k : Nat} (hk : vs[j].ownBlock = some k) : k ≠ g ∧ k ≠ ib ∧ vn.ownBlock ≠ some k ∧ vc.ownBlock ≠ some k := by
  obtain ⟨cur, hc⟩ := ownsRow_block (h.each j hj hv).1 hk
  refine ⟨tag_ne hc h.obj (by decide), fun e => (h.each j hj hv).2 (e ▸ hk), fun e => ?_, fun e => ?_⟩
  · obtain ⟨cur', hc'⟩ := ownsRow_block h.ord e
    exact tag_ne hc hc' (by decide) rfl
  · obtain ⟨cur', hc'⟩ := ownsRow_block h.rows e
    exact tag_ne hc hc' (by decide) rfl
/-- The fuse set anew. -/
theorem RefAt.setF (h : RefAt w g s ib ic vn vc vs) (F' : Option Nat) : RefAt (w.setCell ⟨g, 3, none⟩ (.int .i64 (fuseI F'))) g { s with F := F' } ib ic vn vc vs := by
  refine ⟨?_, ownsRow_same h.img (fun k hk => heap_cell_other ?_), ownsRow_same h.ord (fun k hk => heap_cell_other (h.n_g hk).1), ownsRow_same h.rows (fun k hk => heap_cell_other (h.c_g hk).1), fun j hj hv => ⟨ownsRow_same (h.each j hj hv).1 (fun k hk => heap_cell_other (h.r_tag hj hv hk).1), (h.each j hj hv).2⟩⟩
  · have := h.obj
    simp [World.setCell, Array.getElem?_modify, this]
  · simp [Value.ownBlock] at hk
    exact hk ▸ h.ib_g
end
def RFailed (w : World) (S : Nat → Prop) (g : Nat) (s : St) (e : Ending) (w' : World) : Prop := e = .returned (.bool (blows s.F)) ∧ Ref w' S g (tick s) ∧ Trn S w w' ∧ w'.heap.size = w.heap.size
set_option maxHeartbeats 1000000 in
theorem rfails_is (w : World) (S : Nat → Prop) (g : Nat) (s : St) (h : Ref w S g s) :
    Calls Tryd.prog 76 #[.pointer (some ⟨g, 0, none⟩)] w (RFailed w S g s) := by
  have H := Lib.hid h
  obtain ⟨ib, ic, vn, vc, vs, ha, F, ok⟩ := h
  obtain ⟨_, _, _, c3, _, _, f3⟩ := robj_cells ha.obj
  have HA := Lib.hid ha
  have HF := Lib.hid F
  have HO := Lib.hid ok
  clear ha F
  cases hF : s.F with
  | none =>
    rw [hF] at c3
    have e1 : tick s = s := tick_none hF
    have c3' : w.cell? ⟨g, 3, none⟩ = some (.int .i64 (-1)) := c3
    clear c3
    go_enter Tryd.func76, Tryd.ntmps76
    go_wp2_with fail
    go_ret
    exact ⟨by rw [hF]; rfl, by rw [e1]; exact H.out, Trn.refl _ _, rfl⟩
  | some n =>
    rw [hF] at c3
    have c3' : w.cell? ⟨g, 3, none⟩ = some (.int .i64 (n : Int)) := c3
    have hfm := ok.fuse n hF
    have HX := Lib.hid (HA.out.setF (tickF s.F))
    have e2 : fuseI (tickF s.F) = (n : Int) - 1 := by
      rw [hF]
      cases n with
      | zero => rfl
      | succ n => show (n : Int) = _; omega
    rw [e2] at HX
    have eb : blows s.F = decide ((n : Int) - 1 < 0) := by
      rw [hF]
      cases n with
      | zero => rfl
      | succ n => 
        have : ¬ (((n + 1 : Nat) : Int) - 1 < 0) := by omega
        rw [decide_eq_false this]; rfl
    have HEB := Lib.hid eb
    clear c3 e2 eb
    go_enter Tryd.func76, Tryd.ntmps76
    go_wp2_with fail
    go_ret
    refine ⟨by rw [HEB.out]; first | rfl | simp, ⟨ib, ic, vn, vc, vs, HX.out, ⟨HF.out.g, HF.out.ib, HF.out.n, HF.out.c, HF.out.r, fun k hk => by rw [setCell_size]; exact HF.out.lt k hk⟩, HO.out.tick⟩, (Trn.refl S w).setCell _ (fun _ => HF.out.g), setCell_size _ _ _⟩
theorem rsectors_is (w : World) (S : Nat → Prop) (g : Nat) (s : St) (h : Ref w S g s) :
    Calls Tryd.prog 60 #[.pointer (some ⟨g, 0, none⟩)] w fun e w' => e = .returned (.int .i64 ((secs s : Nat) : Int)) ∧ w = w' := by
  obtain ⟨ib, ic, vn, vc, vs, ha, F, ok⟩ := h
  obtain ⟨c0, _, _, _, _, _, _⟩ := robj_cells ha.obj
  have hsh := ok.short
  clear ha F ok
  unfold secs
  generalize s.B.length = n at *
  go_enter Tryd.func60, Tryd.ntmps60
  go_wp2_with fail
  go_ret
  exact ⟨ret_int (by omega), rfl⟩
set_option maxHeartbeats 1000000 in
theorem rfail_is (w : World) (S : Nat → Prop) (g : Nat) (s : St) (a : Int) (h : Ref w S g s) (hm : -9223372036854775808 ≤ a ∧ a ≤ 9223372036854775807) :
    Calls Tryd.prog 27 #[.pointer (some ⟨g, 0, none⟩), .int .i64 a] w fun e w' => e = .returned (.int .i64 0) ∧ Ref w' S g (failS s a) ∧ Trn S w w' := by
  obtain ⟨ib, ic, vn, vc, vs, ha, F, ok⟩ := h
  obtain ⟨_, _, _, c3, _, _, f3⟩ := robj_cells ha.obj
  have HX := Lib.hid (ha.setF (if a < 0 then none else some a.toNat))
  have e1 : fuseI (if a < 0 then none else some a.toNat) = if a < 0 then -1 else a := by
    split
    · rfl
    · show ((a.toNat : Nat) : Int) = a; omega
  rw [e1] at HX
  have HF := Lib.hid F
  have HO := Lib.hid ok
  clear ha F ok e1
  by_cases ha : a < 0
  · rw [if_pos ha] at HX
    by_cases h1 : a = -1
    · subst h1
      go_enter Tryd.func27, Tryd.ntmps27
      go_wp2_with fail
      go_ret
      exact ⟨rfl, ⟨ib, ic, vn, vc, vs, HX.out, ⟨HF.out.g, HF.out.ib, HF.out.n, HF.out.c, HF.out.r, fun k hk => by rw [setCell_size]; exact HF.out.lt k hk⟩, HO.out.fail (by omega)⟩, (Trn.refl S w).setCell _ (fun _ => HF.out.g)⟩
    · have h2 : ¬ (-1 : Int) < a := by omega
      have h3 : ¬ (-1 : Int) ≤ a := by omega
      have h4 : a < -1 := by omega
      go_enter Tryd.func27, Tryd.ntmps27
      go_wp2_with fail
      go_ret
      exact ⟨rfl, ⟨ib, ic, vn, vc, vs, HX.out, ⟨HF.out.g, HF.out.ib, HF.out.n, HF.out.c, HF.out.r, fun k hk => by rw [setCell_size]; exact HF.out.lt k hk⟩, HO.out.fail (by omega)⟩, (Trn.refl S w).setCell _ (fun _ => HF.out.g)⟩
  · rw [if_neg ha] at HX
    have h2 : (-1 : Int) < a := by omega
    have h3 : (-1 : Int) ≤ a := by omega
    go_enter Tryd.func27, Tryd.ntmps27
    go_wp2_with fail
    go_ret
    exact ⟨rfl, ⟨ib, ic, vn, vc, vs, HX.out, ⟨HF.out.g, HF.out.ib, HF.out.n, HF.out.c, HF.out.r, fun k hk => by rw [setCell_size]; exact HF.out.lt k hk⟩, HO.out.fail hm.2⟩, (Trn.refl S w).setCell _ (fun _ => HF.out.g)⟩
end Go.Proofs.YtagchbpofoidmaaDoor
