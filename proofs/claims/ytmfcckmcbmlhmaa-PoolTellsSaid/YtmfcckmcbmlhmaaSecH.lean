/-
  Package sector: Flush, Fail, Crash, Read by their contracts. Conditions: none but that the disk lies there, and what is handed in apart from it.
-/
import Derived.Test.YtmfcckmcbmlhmaaSecG
namespace Go.Proofs.Ytmfcckmcbmlhmaa
open Go.RowKit Go.Maps
set_option maxRecDepth 100000

theorem Byt.trn {w w' : World} {S : Nat → Prop} {v : Value} {l : List UInt8} (h : Byt w v l) (ht : Trn S w w') (hn : ∀ k, v.ownBlock = some k → ¬ S k) : Byt w' v l := by
  obtain ⟨A, c, rfl, h1, h2, h3⟩ := h
  refine ⟨A, c, rfl, h1, h2, ?_⟩
  rcases h3 with h3 | ⟨b, off, rfl, hb, hc⟩
  · exact .inl h3
  · exact .inr ⟨b, off, rfl, Nat.lt_of_lt_of_le hb ht.size, fun j hj => by
      rw [← hc j hj]
      exact World.cell?_of_block (a := ⟨b, off + j, none⟩) (ht.block b hb (hn b rfl))⟩
theorem Rowz.trn {w w' : World} {S : Nat → Prop} {v : Value} {vs : List Value} (h : Rowz w v vs) (ht : Trn S w w') (hn : ∀ k, v.ownBlock = some k → ¬ S k) : Rowz w' v vs := by
  obtain ⟨A, c, rfl, h1, h2, h3⟩ := h
  refine ⟨A, c, rfl, h1, h2, ?_⟩
  rcases h3 with h3 | ⟨b, off, rfl, hb, hc⟩
  · exact .inl h3
  · exact .inr ⟨b, off, rfl, Nat.lt_of_lt_of_le hb ht.size, fun j hj => by
      rw [← hc j hj]
      exact World.cell?_of_block (a := ⟨b, off + j, none⟩) (ht.block b hb (hn b rfl))⟩
theorem more_lt {w w' : World} {S : Nat → Prop} (hs : w.heap.size ≤ w'.heap.size) (h : ∀ k, S k → k < w.heap.size) : ∀ k, more S w w' k → k < w'.heap.size := by
  rintro k (hk | hk)
  · have := h k hk; omega
  · exact hk.2
theorem Dsk.more {w' w0 : World} {S : Nat → Prop} {g : Nat} {s : St} (h : Dsk w' S g s) (hs : w0.heap.size ≤ w'.heap.size) (hl : ∀ k, S k → k < w0.heap.size) : Dsk w' (more S w0 w') g s := h.wide (fun _ => .inl) (more_lt hs hl)

/-- What a call that answers an error alone leaves. -/
def Done (w : World) (S : Nat → Prop) (g : Nat) (r : Nat × St) (e : Ending) (w' : World) : Prop := e = .returned (.int .i64 ((r.1 : Nat) : Int)) ∧ Dsk w' (more S w w') g r.2 ∧ Trn S w w'
def flushR (s : St) : Nat × St := if blows s.F then (8, tick s) else (0, settleS (fun _ => 512) (tick s))
theorem enter43 : ∀ args W, (callFunc 44 args).run Try.prog W = .ok (.enter 44 args) W := fun _ _ => rfl
theorem flush1_is (w : World) (x : Int) : Calls Try.prog 44 #[.int .i64 x] w fun e w' => e = .returned (.int .i64 512) ∧ w = w' := by
  go_enter Try.func44, Try.ntmps44
  go_wp2_with fail
  go_ret
  exact ⟨rfl, rfl⟩
set_option maxHeartbeats 1000000 in
theorem flush_is (w : World) (S : Nat → Prop) (g : Nat) (s : St) (h : Dsk w S g s) :
    Calls Try.prog 36 #[.pointer (some ⟨g, 0, none⟩)] w (Done w S g (flushR s)) := by
  obtain ⟨ib, ic, m, vo, vf, hd, _, _⟩ := h.parts
  have HM := Lib.hid (made_is w g ib ic m _ vo vf hd h.ok.pos)
  have HF := Lib.hid (fails_is w S g s h)
  have HL := Lib.hid h.lt
  clear h hd
  go_enter Try.func36, Try.ntmps36
  go_wp2_with fail
  refine HM.out.mono ?_
  rintro e w1 ⟨rfl, rfl⟩
  go_wp2_with fail
  refine HF.out.mono ?_
  rintro e w1 ⟨rfl, hd1, ht1, hs1⟩
  have HD1 := Lib.hid hd1
  have HT1 := Lib.hid ht1
  have HS1 := Lib.hid hs1
  clear hd1 ht1 hs1
  cases hbl : blows s.F
  · have HR : Hid (flushR s = (0, settleS (fun _ => 512) (tick s))) := by rw [Hid]; unfold flushR; rw [hbl]; rfl
    clear hbl
    go_wp2_with fail
    refine (settle_any w1 S g (tick s) HD1.out (fun _ => 512) (fun _ => Nat.le_refl _) 44 #[] enter43 (fun k W _ => (flush1_is W (k : Int)).mono (fun e w' ⟨h1, h2⟩ => ⟨h1, h2 ▸ Below.refl _ _⟩))).mono ?_
    rintro e w2 ⟨rfl, hd2, ht2⟩
    have HD2 := Lib.hid hd2
    have HT2 := Lib.hid ht2
    clear hd2 ht2
    go_wp2_with fail
    go_ret
    rw [HR.out]
    refine ⟨rfl, HD2.out.wide ?_ ?_, HT1.out.trans HT2.out (fun _ _ h => h)⟩
    · rintro k (hk | hk)
      · exact .inl hk
      · exact .inr ⟨by have := HS1.out; omega, hk.2⟩
    · exact more_lt (Nat.le_trans HT1.out.size HT2.out.size) HL.out
  · have HR : Hid (flushR s = (8, tick s)) := by rw [Hid]; unfold flushR; rw [hbl]; rfl
    clear hbl
    go_wp2_with fail
    go_ret
    rw [HR.out]
    exact ⟨rfl, HD1.out.more HT1.out.size HL.out, HT1.out⟩
theorem flush_nil (w : World) : Calls Try.prog 36 #[.pointer none] w fun e w' => e = .returned (.int .i64 1) ∧ w = w' := by
  go_enter Try.func36, Try.ntmps36
  go_wp2_with fail
  refine (made_nil _).mono ?_
  rintro e w1 ⟨rfl, rfl⟩
  go_wp2_with fail
  go_ret
  exact ⟨rfl, rfl⟩
/-! Fail. -/
theorem alloc_setCell (w : World) (o : Obj) {g k : Nat} (v : Value) (hg : g < w.heap.size) : (w.alloc o).setCell ⟨g, k, none⟩ v = (w.setCell ⟨g, k, none⟩ v).alloc o := by
  unfold World.setCell World.alloc
  simp only
  congr 1
  apply Array.ext_getElem?
  intro i
  simp only [Array.getElem?_modify, Array.getElem?_push, Array.size_modify]
  by_cases h : g = i
  · subst h
    rw [if_pos rfl, if_pos rfl, if_neg (by omega), if_neg (by omega)]
  · rw [if_neg h, if_neg h]
theorem failed_at {w : World} {S : Nat → Prop} {g : Nat} {s : St} {a : Int} (h : Dsk w S g s) (ha : 0 ≤ a) (hm : a ≤ 9223372036854775807) :
    Dsk (((w.setCell ⟨g, 3, none⟩ (.pointer none)).setCell ⟨g, 3, none⟩ (.pointer (some ⟨w.heap.size, 0, none⟩))).alloc (.cells #[.int .i64 a] 3)) (more S w (((w.setCell ⟨g, 3, none⟩ (.pointer none)).setCell ⟨g, 3, none⟩ (.pointer (some ⟨w.heap.size, 0, none⟩))).alloc (.cells #[.int .i64 a] 3))) g (failS s a) := by
  obtain ⟨ib, ic, m, vo, vf, D, h, F, ok⟩ := h
  have hsz : (((w.setCell ⟨g, 3, none⟩ (.pointer none)).setCell ⟨g, 3, none⟩ (.pointer (some ⟨w.heap.size, 0, none⟩))).alloc (.cells #[.int .i64 a] 3)).heap.size = w.heap.size + 1 := by rw [World.size_alloc, setCell_size, setCell_size]
  have hg : g < w.heap.size := F.lt g F.g
  have hold : ∀ k, k ≠ g → k < w.heap.size → (((w.setCell ⟨g, 3, none⟩ (.pointer none)).setCell ⟨g, 3, none⟩ (.pointer (some ⟨w.heap.size, 0, none⟩))).alloc (.cells #[.int .i64 a] 3)).heap[k]? = w.heap[k]? := fun k hk hl =>
    (heap_alloc_old _ _ (by rw [setCell_size, setCell_size]; exact hl)).trans ((heap_cell_other hk).trans (heap_cell_other hk))
  have hS : failS s a = { s with F := some a.toNat } := by unfold failS; rw [if_neg (by omega)]
  rw [hS]
  refine ⟨ib, ic, m, vo, .pointer (some ⟨w.heap.size, 0, none⟩), D, ⟨?_, ownsRow_same h.img (fun k hk => hold k ?_ ?_), ownsMap_same h.mp (hold m h.m_g (F.lt m F.m)), h.fits, ownsRow_same h.ord (fun k hk => hold k (h.o_g hk) (F.lt k (F.o k hk))), .inr ⟨w.heap.size, a.toNat, rfl, rfl, ?_⟩, fun f hf => ?_⟩,
    ⟨.inl F.g, .inl F.ib, .inl F.m, fun k hk => .inl (F.o k hk), fun k hk => ?_, more_lt (by rw [hsz]; omega) F.lt⟩, hS ▸ ok.fail hm⟩
  · rw [heap_alloc_old _ _ (by rw [setCell_size, setCell_size]; exact hg)]
    have := h.obj
    simp [World.setCell, Array.getElem?_modify, this]
  · simp [Value.ownBlock] at hk
    exact hk ▸ h.ib_g
  · simp [Value.ownBlock] at hk
    exact hk ▸ F.lt ib F.ib
  · have := heap_alloc_new ((w.setCell ⟨g, 3, none⟩ (.pointer none)).setCell ⟨g, 3, none⟩ (.pointer (some ⟨w.heap.size, 0, none⟩))) (.cells #[.int .i64 a] 3)
    rw [setCell_size, setCell_size] at this
    rw [show ((a.toNat : Nat) : Int) = a by omega]
    exact this
  · simp [ptrBlock] at hf
    subst hf
    intro e
    have := F.lt _ (F.o _ e)
    omega
  · simp [ptrBlock] at hk
    subst hk
    exact .inr ⟨Nat.le_refl _, by rw [hsz]; omega⟩
theorem failed_off {w : World} {S : Nat → Prop} {g : Nat} {s : St} {a : Int} (h : Dsk w S g s) (ha : a < 0) (o : Obj) :
    Dsk ((w.setCell ⟨g, 3, none⟩ (.pointer none)).alloc o) (more S w ((w.setCell ⟨g, 3, none⟩ (.pointer none)).alloc o)) g (failS s a) := by
  obtain ⟨ib, ic, m, vo, vf, D, h, F, ok⟩ := h
  have hS : failS s a = { s with F := none } := by unfold failS; rw [if_pos ha]
  have h1 := h.setF (vf' := .pointer none) (F' := none) (.inl ⟨rfl, rfl⟩) (fun f hf => by cases hf)
  have h2 : Dsk (w.setCell ⟨g, 3, none⟩ (.pointer none)) S g (failS s a) := by
    rw [hS]
    exact ⟨ib, ic, m, vo, .pointer none, D, h1, ⟨F.g, F.ib, F.m, F.o, fun k hk => (by cases hk), fun k hk => by rw [setCell_size]; exact F.lt k hk⟩, hS ▸ ok.fail (by omega)⟩
  exact (h2.below (below_new _ o)).more (by simp) F.lt
end Go.Proofs.Ytmfcckmcbmlhmaa
