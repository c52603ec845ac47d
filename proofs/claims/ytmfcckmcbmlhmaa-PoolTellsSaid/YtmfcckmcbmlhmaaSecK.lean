/-
  Package sector: Write by its contract. Conditions: none but that the disk lies there, and what is handed in apart from it.
-/
import Derived.Test.YtmfcckmcbmlhmaaSecJ
namespace Go.Proofs.Ytmfcckmcbmlhmaa
open Go.RowKit Go.Maps
set_option maxRecDepth 100000

/-- A disk whose order may be ahead of its cache. -/
structure PreW (w : World) (g : Nat) (s : St) (ks : List Nat) (ib ic m : Nat) (vo vf : Value) (D : DataW Unit) : Prop where
  obj : w.heap[g]? = some (.cells #[.slice (some ⟨ib, 0, none⟩) s.B.length ic, .map (some m), vo, vf] 70 (0, 0))
  img : Own w 0 5 (.slice (some ⟨ib, 0, none⟩) s.B.length ic) s.B
  mp : w.ownsMap Try.prog 3 rowE m s.C.length D
  fits : Fits D s.C
  ord : w.ownsRow 0 3 1 vo ks.length (inz ks)
  flt : Flt w vf s.F
  apart : ∀ f, ptrBlock vf = some f → vo.ownBlock ≠ some f
theorem DskAt.pre {w : World} {g ib ic m : Nat} {s : St} {vo vf : Value} {D : DataW Unit} (h : DskAt w g s ib ic m vo vf D) : PreW w g s (keysC s.C) ib ic m vo vf D :=
  ⟨h.obj, h.img, h.mp, h.fits, by rw [keysC_len]; exact h.ord, h.flt, h.apart⟩
theorem ownsMap_tight {w : World} {m n : Nat} {D : DataW Unit} (h : w.ownsMap Try.prog 3 rowE m n D) : w.ownsMap Try.prog 3 rowE m (Maps.size D) D := by
  obtain ⟨es, clock, h1, F, _, rfl⟩ := h
  refine ⟨es, clock, h1, F, ?_, rfl⟩
  simp [Maps.size, length_sorted]
section
variable {w : World} {g ib ic m : Nat} {s : St} {vo vf : Value} {D : DataW Unit} {ks : List Nat}
theorem PreW.ib_g (h : PreW w g s ks ib ic m vo vf D) : ib ≠ g := by
  obtain ⟨cur, hc⟩ := ownsRow_block h.img (k := ib) rfl
  exact tag_ne hc h.obj (by decide)
theorem PreW.m_ib (h : PreW w g s ks ib ic m vo vf D) : m ≠ ib := by
  obtain ⟨cur, hc⟩ := ownsRow_block h.img (k := ib) rfl
  exact map_ne h.mp hc
theorem PreW.o_tag (h : PreW w g s ks ib ic m vo vf D) {k : Nat} (hk : vo.ownBlock = some k) : k ≠ g ∧ k ≠ ib ∧ k ≠ m := by
  obtain ⟨cur, hc⟩ := ownsRow_block h.ord hk
  obtain ⟨cur', hc'⟩ := ownsRow_block h.img (k := ib) rfl
  exact ⟨tag_ne hc h.obj (by decide), tag_ne hc hc' (by decide), (map_ne h.mp hc).symm⟩
theorem PreW.f_tag (h : PreW w g s ks ib ic m vo vf D) {f : Nat} (hf : ptrBlock vf = some f) : f ≠ g ∧ f ≠ ib ∧ f ≠ m := by
  obtain ⟨n, _, _, hb⟩ := h.flt.block hf
  obtain ⟨cur', hc'⟩ := ownsRow_block h.img (k := ib) rfl
  exact ⟨tag_ne hb h.obj (by decide), tag_ne hb hc' (by decide), (map_ne h.mp hb).symm⟩
theorem PreW.wrote {w' : World} {S : Nat → Prop} {n : Nat} {l : List UInt8} (h : PreW w g s (keysC (putC s.C n l)) ib ic m vo vf D) (F : Foot S w g ib m vo vf) (ok : OkSt s) (hn : n < secs s) (hl : l.length = 512)
    (hm : w'.ownsMap Try.prog 3 rowE m (s.C.length + 1) (D.put (keyL n) (.lit (.string l)))) (hg : w.grownBy w' (some m)) : Dsk w' S g (writeS s n l) := by
  have hf := h.fits.put (h.mp.tidy intKeyed) n l
  have hm' := ownsMap_tight hm
  rw [hf.size] at hm'
  have hne : ∀ k, k < w.heap.size → k ≠ m → w'.heap[k]? = w.heap[k]? := fun k hk e => hg.block k hk (fun h => e (by injection h))
  have ho := h.ord
  rw [keysC_len] at ho
  refine ⟨ib, ic, m, vo, vf, _, ⟨(hne g (F.lt g F.g) (fun e => ?_)).trans h.obj, ownsRow_same h.img (fun k hk => ?_), hm', hf, ownsRow_same ho (fun k hk => hne k (F.lt k (F.o k hk)) (h.o_tag hk).2.2), h.flt.same (fun k hk => hne k (F.lt k (F.f k hk)) (h.f_tag hk).2.2), h.apart⟩,
    ⟨F.g, F.ib, F.m, F.o, F.f, fun k hk => Nat.lt_of_lt_of_le (F.lt k hk) hg.size⟩, ok.write hn hl⟩
  · exact map_ne h.mp h.obj e.symm
  · simp [Value.ownBlock] at hk
    subst hk
    exact hne ib (F.lt ib F.ib) h.m_ib.symm
theorem PreW.alloc (h : PreW w g s ks ib ic m vo vf D) (o : Obj) : PreW (w.alloc o) g s ks ib ic m vo vf D := by
  have hb : ∀ k, k < w.heap.size → (w.alloc o).heap[k]? = w.heap[k]? := fun k hk => heap_alloc_old w o hk
  have hlt : ∀ (k : Nat) (x : Obj), w.heap[k]? = some x → k < w.heap.size := fun k x hk => (Array.getElem?_eq_some_iff.1 hk).1
  refine ⟨(hb g (hlt _ _ h.obj)).trans h.obj, World.ownsRow.alloc h.img o, h.mp.alloc o, h.fits, World.ownsRow.alloc h.ord o, h.flt.same (fun k hk => ?_), h.apart⟩
  obtain ⟨_, _, _, hk'⟩ := h.flt.block hk
  exact hb k (hlt _ _ hk')
theorem PreW.below {w' : World} (h : PreW w g s ks ib ic m vo vf D) (hb : Below w.heap.size w w') : PreW w' g s ks ib ic m vo vf D := by
  have hlt : ∀ (k : Nat) (x : Obj), w.heap[k]? = some x → k < w.heap.size := fun k x hk => (Array.getElem?_eq_some_iff.1 hk).1
  refine ⟨(hb.block g (hlt _ _ h.obj)).trans h.obj, ownsRow_same h.img (fun k hk => ?_), ownsMap_same h.mp (hb.block m h.mp.lt), h.fits, ownsRow_same h.ord (fun k hk => ?_), h.flt.same (fun k hk => ?_), h.apart⟩
  · obtain ⟨cur, hc⟩ := ownsRow_block h.img hk
    exact hb.block k (hlt _ _ hc)
  · obtain ⟨cur, hc⟩ := ownsRow_block h.ord hk
    exact hb.block k (hlt _ _ hc)
  · obtain ⟨_, _, _, hk'⟩ := h.flt.block hk
    exact hb.block k (hlt _ _ hk')
theorem Foot.below {S : Nat → Prop} {w' : World} (F : Foot S w g ib m vo vf) (hs : w.heap.size ≤ w'.heap.size) : Foot S w' g ib m vo vf := ⟨F.g, F.ib, F.m, F.o, F.f, fun k hk => Nat.lt_of_lt_of_le (F.lt k hk) hs⟩
/-- The order made longer by one. -/
theorem PreW.extend {S : Nat → Prop} {w3 : World} {v3 : Value} {n : Nat} (h : PreW w g s ks ib ic m vo vf D) (F : Foot S w g ib m vo vf) (hg : w.grownBy w3 vo.ownBlock) (ho : w3.ownsRow 0 3 1 v3 (ks.length + 1) (inz ks ++ [.int .i64 (n : Int)]))
    (hw : v3.ownBlock = vo.ownBlock ∨ v3.ownBlock = some w.heap.size) :
    PreW (w3.setCell ⟨g, 2, none⟩ v3) g s (ks ++ [n]) ib ic m v3 vf D ∧ Foot (more S w w3) (w3.setCell ⟨g, 2, none⟩ v3) g ib m v3 vf ∧ Trn S w (w3.setCell ⟨g, 2, none⟩ v3) := by
  have hb : ∀ k, k < w.heap.size → k ≠ g → vo.ownBlock ≠ some k → (w3.setCell ⟨g, 2, none⟩ v3).heap[k]? = w.heap[k]? := fun k hk e1 e2 => (heap_cell_other e1).trans (hg.block k hk (fun e => e2 e.symm))
  have h3 : ∀ k, v3.ownBlock = some k → more S w w3 k := fun k hk => by
    rcases hw with e | e
    · exact .inl (F.o k (e ▸ hk))
    · rw [e] at hk
      injection hk with hk
      subst hk
      exact .inr ⟨Nat.le_refl _, (World.ownsRow.lt ho _ e).2⟩
  have hog : vo.ownBlock ≠ some g := fun e => (h.o_tag e).1 rfl
  have hob : vo.ownBlock ≠ some ib := fun e => (h.o_tag e).2.1 rfl
  have hom : vo.ownBlock ≠ some m := fun e => (h.o_tag e).2.2 rfl
  have h3g : w3.heap[g]? = _ := (hg.block g (F.lt g F.g) (fun e => hog e.symm)).trans h.obj
  refine ⟨⟨?_, ownsRow_same h.img (fun k hk => ?_), ownsMap_same h.mp (hb m (F.lt m F.m) (map_ne h.mp h.obj) hom), h.fits, ?_, h.flt.same (fun k hk => hb k (F.lt k (F.f k hk)) (h.f_tag hk).1 (h.apart k hk)), fun f hf => ?_⟩,
    ⟨.inl F.g, .inl F.ib, .inl F.m, h3, fun k hk => .inl (F.f k hk), ?_⟩, ?_⟩
  · simp [World.setCell, Array.getElem?_modify, h3g]
  · simp [Value.ownBlock] at hk
    subst hk
    exact hb ib (F.lt ib F.ib) h.ib_g hob
  · have e1 : inz (ks ++ [n]) = inz ks ++ [.int .i64 (n : Int)] := by simp [inz]
    rw [e1, List.length_append]
    refine ownsRow_same ho (fun k hk => heap_cell_other ?_)
    rintro rfl
    obtain ⟨cur, hc⟩ := ownsRow_block ho hk
    exact tag_ne hc h3g (by decide) rfl
  · intro e
    rcases hw with e2 | e2
    · exact h.apart f hf (e2 ▸ e)
    · rw [e2] at e
      injection e with e
      have := F.lt f (F.f f hf)
      omega
  · intro k hk
    rw [setCell_size]
    exact more_lt hg.size F.lt k hk
  · exact (Trn.of_grown hg (fun i hi => F.o i hi)).setCell _ (fun _ => F.g)
end

def writeR (s : St) (x : Int) (l : List UInt8) : Nat × St := if (0 ≤ x ∧ x < ((secs s : Nat) : Int)) ∧ l.length = 512 then (if blows s.F then (8, tick s) else (0, writeS (tick s) x.toNat l)) else (2, s)

set_option maxRecDepth 100000 in
set_option maxHeartbeats 4000000 in
/-- From the map's store on. -/
theorem write_bad (w : World) (S : Nat → Prop) (g : Nat) (s : St) (x : Int) (v : Value) (l : List UInt8) (h : Dsk w S g s) (hv : Byt w v l) (hx : ¬ ((0 ≤ x ∧ x < ((secs s : Nat) : Int)) ∧ l.length = 512)) :
    Calls Try.prog 50 #[.pointer (some ⟨g, 0, none⟩), .int .i64 x, v] w (Done w S g (writeR s x l)) := by
  obtain ⟨ib, ic, m, vo, vf, hd, _, _⟩ := h.parts
  have HM := Lib.hid (made_is w g ib ic m _ vo vf hd h.ok.pos)
  have HH := Lib.hid (has_is w g ib ic m _ vo vf x hd h.ok.pos)
  rw [show s.B.length / 512 = secs s from rfl] at HH
  have H := Lib.hid h
  have HR : Hid (writeR s x l = (2, s)) := by rw [Hid]; unfold writeR; rw [if_neg hx]
  obtain ⟨A, n, c, rfl, N, hnc, hcm⟩ := hv.form
  clear h hd hv
  by_cases h1 : 0 ≤ x ∧ x < ((secs s : Nat) : Int)
  · rw [show decide (0 ≤ x ∧ x < ((secs s : Nat) : Int)) = true by simp [h1]] at HH
    have hl : ((n : Int) == 512) = false := by have := N.out; simp; omega
    clear hx h1
    go_enter Try.func50, Try.ntmps50
    go_wp2_with fail
    refine HM.out.mono ?_
    rintro e w1 ⟨rfl, rfl⟩
    go_wp2_with fail
    refine HH.out.mono ?_
    rintro e w1 ⟨rfl, rfl⟩
    go_wp2_with fail
    go_ret
    rw [HR.out]
    exact ⟨rfl, H.out.more (Nat.le_refl _) H.out.lt, Trn.refl _ _⟩
  · rw [show decide (0 ≤ x ∧ x < ((secs s : Nat) : Int)) = false by simp [h1]] at HH
    clear hx h1
    go_enter Try.func50, Try.ntmps50
    go_wp2_with fail
    refine HM.out.mono ?_
    rintro e w1 ⟨rfl, rfl⟩
    go_wp2_with fail
    refine HH.out.mono ?_
    rintro e w1 ⟨rfl, rfl⟩
    go_wp2_with fail
    go_ret
    rw [HR.out]
    exact ⟨rfl, H.out.more (Nat.le_refl _) H.out.lt, Trn.refl _ _⟩
theorem write_nil (w : World) (x : Int) (v : Value) (l : List UInt8) (hv : Byt w v l) : Calls Try.prog 50 #[.pointer none, .int .i64 x, v] w fun e w' => e = .returned (.int .i64 1) ∧ w = w' := by
  obtain ⟨A, n, c, rfl, N, hnc, hcm⟩ := hv.form
  clear hv
  go_enter Try.func50, Try.ntmps50
  go_wp2_with fail
  refine (made_nil _).mono ?_
  rintro e w1 ⟨rfl, rfl⟩
  go_wp2_with fail
  go_ret
  exact ⟨rfl, rfl⟩
end Go.Proofs.Ytmfcckmcbmlhmaa
