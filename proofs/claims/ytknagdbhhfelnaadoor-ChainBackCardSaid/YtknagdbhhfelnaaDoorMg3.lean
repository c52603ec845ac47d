/-
  The texts SecJ, SecK, SecL, SecM, SecN, SecT in one. Conditions: as each part says.
-/
import Derived.Test.YtknagdbhhfelnaaDoorMg2
import Derived.Test.YtknagdbhhfelnaaDoorMg1
/-
  Package sector: Read, Write by their contracts. Conditions: none but that the disk lies there, and what is handed in apart from it.
-/
namespace Go.Proofs.YtknagdbhhfelnaaDoor
open Go.RowKit Go.Maps
set_option maxRecDepth 100000

theorem look_ok {w : World} {m N : Nat} {D : DataW Unit} {C : Cch} (h : w.ownsMap Tryd.prog 3 rowE m N D) (hf : Fits D C) {n : Nat} (hn : n ≤ 9223372036854775807) :
    ∃ l', l'.length = 512 ∧ (Instr.lookup 104 (.map (some m)) (.int .i64 (n : Int)) true).run Tryd.prog w = .ok (.tuple #[.agg (byc l').toArray, .bool (lookC C n).isSome]) w ∧ ∀ l, lookC C n = some l → l' = l := by
  obtain ⟨v, ps, hrun, hv⟩ := h.look_ok intKeyed mapUnder (rowZero w) (rowE_mk zero512 zero512_len) (keyOf_int_mk Tryd.underlying3 (keyL_wf hn))
  obtain ⟨l', hl', rfl, e⟩ := rowE_inv hv
  refine ⟨l', hl', ?_, fun l hl => ?_⟩
  · rw [hrun]
    have : Maps.has D (Lit.int .i64 (n : Int)) = (lookC C n).isSome := by
      cases hc : lookC C n with
      | some l => exact (hf.hit n l hc).1
      | none => exact hf.miss n hc
    rw [this]
  · have := (hf.hit n l hl).2
    rw [show (Lit.int .i64 (n : Int)) = keyL n from rfl, show (DataW.lit (Lit.string zero512) : DataW Unit) = zrow from rfl, this] at e
    injection e with e
    injection e with e
    exact e.symm

/-- What Read answers. -/
def readR (s : St) (x : Int) : List UInt8 × Nat × St := if 0 ≤ x ∧ x < ((secs s : Nat) : Int) then (if blows s.F then ([], 8, tick s) else (readB s x.toNat, 0, tick s)) else ([], 2, s)
def Red (w : World) (S : Nat → Prop) (g : Nat) (r : List UInt8 × Nat × St) (e : Ending) (w' : World) : Prop :=
  ∃ v, e = .returned (.tuple #[v, .int .i64 ((r.2.1 : Nat) : Int)]) ∧ Own w' w.heap.size 5 v r.1 ∧ Dsk w' S g r.2.2 ∧ Trn S w w'
set_option maxRecDepth 100000 in
set_option maxHeartbeats 4000000 in
theorem read_is (w : World) (S : Nat → Prop) (g : Nat) (s : St) (x : Int) (h : Dsk w S g s) :
    Calls Tryd.prog 91 #[.pointer (some ⟨g, 0, none⟩), .int .i64 x] w (Red w S g (readR s x)) := by
  obtain ⟨ib, ic, m, vo, vf, hd, _, _⟩ := h.parts
  have HM := Lib.hid (made_is w g ib ic m _ vo vf hd h.ok.pos)
  have HH := Lib.hid (has_is w g ib ic m _ vo vf x hd h.ok.pos)
  rw [show s.B.length / 512 = secs s from rfl] at HH
  have HF := Lib.hid (fails_is w S g s h)
  have H := Lib.hid h
  have HL := Lib.hid h.lt
  have hok := h.ok
  clear h hd
  by_cases hx : 0 ≤ x ∧ x < ((secs s : Nat) : Int)
  · rw [show decide (0 ≤ x ∧ x < ((secs s : Nat) : Int)) = true by simp [hx]] at HH
    cases hbl : blows s.F
    · have HR : Hid (readR s x = (readB s x.toNat, 0, tick s)) := by rw [Hid]; unfold readR; rw [if_pos hx, hbl]; rfl
      obtain ⟨n, rfl⟩ := Int.eq_ofNat_of_zero_le hx.1
      unfold Failed at HF
      rw [hbl] at HF
      have hn : n < secs s := by omega
      have hn2 : 512 * (n + 1) ≤ s.B.length := by have := hok.whole; omega
      have hsh := hok.short
      have hns : n ≤ 9223372036854775807 := by have := hok.few; omega
      have HRB : Hid (readB s (Int.toNat (n : Int)) = readB (tick s) n) := rfl
      have Z := rowZero
      have HZ := Lib.hid zero512_len
      clear hx hbl
      go_enter Tryd.func91, Tryd.ntmps91
      go_wp2_with fail
      refine HM.out.mono ?_
      rintro e w1 ⟨rfl, rfl⟩
      go_wp2_with fail
      refine HH.out.mono ?_
      rintro e w1 ⟨rfl, rfl⟩
      go_wp2_with fail
      refine HF.out.mono ?_
      rintro e w1 ⟨rfl, hd1, ht1, hs1⟩
      have HD1 := Lib.hid hd1
      have HT1 := Lib.hid ht1
      have HS1 := Lib.hid hs1
      obtain ⟨ib1, ic1, m1, vo1, vf1, D1, ha1, F1, ok1⟩ := hd1
      obtain ⟨c0, c1, c2, c3, _, _, _⟩ := obj_cells ha1.obj
      obtain ⟨l', hl', LK, hsome⟩ := look_ok ha1.mp ha1.fits (n := n) hns
      obtain ⟨A', c', e, q1, q2, _⟩ := Own.byt ha1.img
      have e3 : c' = ic1 := by injection e with _ _ e3; exact e3.symm
      subst e3
      unfold maxLen at q2
      have HJ : Hid (DObj w1 g ib1 c' m1 (tick s).B.length vo1 vf1) := ⟨ha1.obj, q1, by omega⟩
      have HI := Lib.hid (Own.byt ha1.img)
      have HL1 := Lib.hid hl'
      have hCt : (tick s).C = s.C := rfl
      rw [hCt] at LK hsome
      clear ht1 hs1 ha1 F1 ok1 e q1 q2 hl'
      generalize zero512 = z0 at *
      have RA : ∀ W, (Instr.sliceAt 149 (.pointer (some ⟨w1.heap.size, 0, none⟩)) none none none).run Tryd.prog W = .ok (.slice (some ⟨w1.heap.size, 0, none⟩) 512 512) W := fun W => rowSliceAll W _
      cases hc : lookC s.C n with
      | some l =>
        rw [hc] at LK
        have hb : Hid (readB (tick s) n = l') := by rw [Hid]; unfold readB; rw [hCt, hc, hsome l hc]; rfl
        clear hsome hc
        rw [Option.isSome_some] at LK
        go_wp2_with (refine wpList_storeRow z0 l' HZ.out HL1.out rfl _ _ rfl rfl rfl ?_; intro w2 hr2 hb2 hs2)
        have HB2 := Lib.hid hb2
        refine (cloneb_any w2 _ l' (hr2.byt HL1.out) (by have := HL1.out; omega)).mono ?_
        rintro e w3 ⟨v3, rfl, hown3, hb3⟩
        have HO3 := Lib.hid hown3
        have HB3 := Lib.hid (HB2.out.trans (hb3.mono HB2.out.size))
        clear hown3 hb3 hr2 hb2
        go_wp2_with fail
        go_ret2
        rw [HR.out, HRB.out, hb.out]
        exact ⟨_, rfl, HO3.out.lower (by have := HB2.out.size; have := HS1.out; omega), HD1.out.below HB3.out, HT1.out.trans (Trn.of_below HB3.out (S := fun _ => False)) (fun _ _ h => h.elim)⟩
      | none =>
        rw [hc] at LK
        have hb : Hid (readB (tick s) n = sectB s.B n) := by rw [Hid]; unfold readB; rw [hCt, hc]; rfl
        clear hsome hc
        rw [Option.isSome_none] at LK
        go_wp2_with (refine wpList_storeRow z0 l' HZ.out HL1.out rfl _ _ rfl rfl rfl ?_; intro w2 hr2 hb2 hs2)
        have HB2 := Lib.hid hb2
        have hg1 : g < w1.heap.size := (Array.getElem?_eq_some_iff.1 HJ.out.1).1
        refine (below_is w2 g ib1 c' m1 _ n vo1 vf1 ⟨(HB2.out.block g hg1).trans HJ.out.1, HJ.out.2⟩ hn2).mono ?_
        rintro e w3 ⟨rfl, rfl⟩
        have hby : Byt w2 (.slice (some ⟨ib1, 512 * n, none⟩) 512 (c' - 512 * n)) (sectB s.B n) := by
          have h1 := (HI.out.below HB2.out).cut (k := 512 * n) (by show 512 * n ≤ s.B.length; omega)
          rw [if_neg (by have := HJ.out.2.1; have : (tick s).B.length = s.B.length := rfl; omega)] at h1
          have h2 := h1.upto (k := 512) (by show 512 ≤ s.B.length - 512 * n; omega)
          simp only [Option.map_some, plainAdd, Nat.zero_add] at h2
          exact h2
        have HY := Lib.hid hby
        clear hby hr2 hb2
        go_wp2_with fail
        refine (cloneb_any w2 _ _ HY.out (by rw [sectB_len hn2]; omega)).mono ?_
        rintro e w3 ⟨v3, rfl, hown3, hb3⟩
        have HO3 := Lib.hid hown3
        have HB3 := Lib.hid (HB2.out.trans (hb3.mono HB2.out.size))
        clear hown3 hb3
        go_wp2_with fail
        go_ret2
        rw [HR.out, HRB.out, hb.out]
        exact ⟨_, rfl, HO3.out.lower (by have := HB2.out.size; have := HS1.out; omega), HD1.out.below HB3.out, HT1.out.trans (Trn.of_below HB3.out (S := fun _ => False)) (fun _ _ h => h.elim)⟩
    · have HR : Hid (readR s x = ([], 8, tick s)) := by rw [Hid]; unfold readR; rw [if_pos hx, hbl]; rfl
      unfold Failed at HF
      rw [hbl] at HF
      clear hx hbl
      go_enter Tryd.func91, Tryd.ntmps91
      go_wp2_with fail
      refine HM.out.mono ?_
      rintro e w1 ⟨rfl, rfl⟩
      go_wp2_with fail
      refine HH.out.mono ?_
      rintro e w1 ⟨rfl, rfl⟩
      go_wp2_with fail
      refine HF.out.mono ?_
      rintro e w1 ⟨rfl, hd1, ht1, hs1⟩
      have HD1 := Lib.hid hd1
      have HT1 := Lib.hid ht1
      clear hd1 ht1 hs1
      go_wp2_with fail
      go_ret2
      rw [HR.out]
      exact ⟨_, rfl, World.ownsRow_nil _ _ _ 1, HD1.out, HT1.out⟩
  · have HR : Hid (readR s x = ([], 2, s)) := by rw [Hid]; unfold readR; rw [if_neg hx]
    rw [show decide (0 ≤ x ∧ x < ((secs s : Nat) : Int)) = false by simp [hx]] at HH
    clear hx
    go_enter Tryd.func91, Tryd.ntmps91
    go_wp2_with fail
    refine HM.out.mono ?_
    rintro e w1 ⟨rfl, rfl⟩
    go_wp2_with fail
    refine HH.out.mono ?_
    rintro e w1 ⟨rfl, rfl⟩
    go_wp2_with fail
    go_ret2
    rw [HR.out]
    exact ⟨_, rfl, World.ownsRow_nil _ _ _ 1, H.out, Trn.refl _ _⟩
theorem read_nil (w : World) (x : Int) : Calls Tryd.prog 91 #[.pointer none, .int .i64 x] w fun e w' => e = .returned (.tuple #[.slice none 0 0, .int .i64 1]) ∧ w = w' := by
  go_enter Tryd.func91, Tryd.ntmps91
  go_wp2_with fail
  refine (made_nil _).mono ?_
  rintro e w1 ⟨rfl, rfl⟩
  go_wp2_with fail
  go_ret2
  exact ⟨rfl, rfl⟩
end Go.Proofs.YtknagdbhhfelnaaDoor

/-
  Package sector: Write by its contract. Conditions: none but that the disk lies there, and what is handed in apart from it.
-/
namespace Go.Proofs.YtknagdbhhfelnaaDoor
open Go.RowKit Go.Maps
set_option maxRecDepth 100000

/-- A disk whose order may be ahead of its cache. -/
structure PreW (w : World) (g : Nat) (s : St) (ks : List Nat) (ib ic m : Nat) (vo vf : Value) (D : DataW Unit) : Prop where
  obj : w.heap[g]? = some (.cells #[.slice (some ⟨ib, 0, none⟩) s.B.length ic, .map (some m), vo, vf] 107 (0, 0))
  img : Own w 0 5 (.slice (some ⟨ib, 0, none⟩) s.B.length ic) s.B
  mp : w.ownsMap Tryd.prog 3 rowE m s.C.length D
  fits : Fits D s.C
  ord : w.ownsRow 0 3 1 vo ks.length (inz ks)
  flt : Flt w vf s.F
  apart : ∀ f, ptrBlock vf = some f → vo.ownBlock ≠ some f
theorem DskAt.pre {w : World} {g ib ic m : Nat} {s : St} {vo vf : Value} {D : DataW Unit} (h : DskAt w g s ib ic m vo vf D) : PreW w g s (keysC s.C) ib ic m vo vf D :=
  ⟨h.obj, h.img, h.mp, h.fits, by rw [keysC_len]; exact h.ord, h.flt, h.apart⟩
theorem ownsMap_tight {w : World} {m n : Nat} {D : DataW Unit} (h : w.ownsMap Tryd.prog 3 rowE m n D) : w.ownsMap Tryd.prog 3 rowE m (Maps.size D) D := by
  obtain ⟨es, clock, h1, F, _, rfl⟩ := h
  refine ⟨es, clock, h1, F, ?_, rfl⟩
  simp [Maps.size, length_sorted]
section
variable {w : World} {g ib ic m : Nat} {s : St} {vo vf : Value} {D : DataW Unit} {ks : List Nat}
theorem PreW.ib_g (h : PreW w g s ks ib ic m vo vf D) : ib ≠ g := by
  obtain ⟨cur, hc⟩ := ownsRow_block h.img (k := ib) rfl
  exact tag_ne hc h.obj (by decide)
theorem PreW.m_ib (h : PreW w g s ks ib ic m vo vf D) : m ≠ ib := by
  obtain ⟨cur, hc⟩ := ownsRow_block h.img (k := ib) rfl
  exact map_ne h.mp hc
theorem PreW.o_tag (h : PreW w g s ks ib ic m vo vf D) {k : Nat} (hk : vo.ownBlock = some k) : k ≠ g ∧ k ≠ ib ∧ k ≠ m := by
  obtain ⟨cur, hc⟩ := ownsRow_block h.ord hk
  obtain ⟨cur', hc'⟩ := ownsRow_block h.img (k := ib) rfl
  exact ⟨tag_ne hc h.obj (by decide), tag_ne hc hc' (by decide), (map_ne h.mp hc).symm⟩
theorem PreW.f_tag (h : PreW w g s ks ib ic m vo vf D) {f : Nat} (hf : ptrBlock vf = some f) : f ≠ g ∧ f ≠ ib ∧ f ≠ m := by
  obtain ⟨n, _, _, hb⟩ := h.flt.block hf
  obtain ⟨cur', hc'⟩ := ownsRow_block h.img (k := ib) rfl
  exact ⟨tag_ne hb h.obj (by decide), tag_ne hb hc' (by decide), (map_ne h.mp hb).symm⟩
theorem PreW.wrote {w' : World} {S : Nat → Prop} {n : Nat} {l : List UInt8} (h : PreW w g s (keysC (putC s.C n l)) ib ic m vo vf D) (F : Foot S w g ib m vo vf) (ok : OkSt s) (hn : n < secs s) (hl : l.length = 512)
    (hm : w'.ownsMap Tryd.prog 3 rowE m (s.C.length + 1) (D.put (keyL n) (.lit (.string l)))) (hg : w.grownBy w' (some m)) : Dsk w' S g (writeS s n l) := by
  have hf := h.fits.put (h.mp.tidy intKeyed) n l
  have hm' := ownsMap_tight hm
  rw [hf.size] at hm'
  have hne : ∀ k, k < w.heap.size → k ≠ m → w'.heap[k]? = w.heap[k]? := fun k hk e => hg.block k hk (fun h => e (by injection h))
  have ho := h.ord
  rw [keysC_len] at ho
  refine ⟨ib, ic, m, vo, vf, _, ⟨(hne g (F.lt g F.g) (fun e => ?_)).trans h.obj, ownsRow_same h.img (fun k hk => ?_), hm', hf, ownsRow_same ho (fun k hk => hne k (F.lt k (F.o k hk)) (h.o_tag hk).2.2), h.flt.same (fun k hk => hne k (F.lt k (F.f k hk)) (h.f_tag hk).2.2), h.apart⟩,
    ⟨F.g, F.ib, F.m, F.o, F.f, fun k hk => Nat.lt_of_lt_of_le (F.lt k hk) hg.size⟩, ok.write hn hl⟩
  · exact map_ne h.mp h.obj e.symm
  · simp [Value.ownBlock] at hk
    subst hk
    exact hne ib (F.lt ib F.ib) h.m_ib.symm
theorem PreW.alloc (h : PreW w g s ks ib ic m vo vf D) (o : Obj) : PreW (w.alloc o) g s ks ib ic m vo vf D := by
  have hb : ∀ k, k < w.heap.size → (w.alloc o).heap[k]? = w.heap[k]? := fun k hk => heap_alloc_old w o hk
  have hlt : ∀ (k : Nat) (x : Obj), w.heap[k]? = some x → k < w.heap.size := fun k x hk => (Array.getElem?_eq_some_iff.1 hk).1
  refine ⟨(hb g (hlt _ _ h.obj)).trans h.obj, World.ownsRow.alloc h.img o, h.mp.alloc o, h.fits, World.ownsRow.alloc h.ord o, h.flt.same (fun k hk => ?_), h.apart⟩
  obtain ⟨_, _, _, hk'⟩ := h.flt.block hk
  exact hb k (hlt _ _ hk')
theorem PreW.below {w' : World} (h : PreW w g s ks ib ic m vo vf D) (hb : Below w.heap.size w w') : PreW w' g s ks ib ic m vo vf D := by
  have hlt : ∀ (k : Nat) (x : Obj), w.heap[k]? = some x → k < w.heap.size := fun k x hk => (Array.getElem?_eq_some_iff.1 hk).1
  refine ⟨(hb.block g (hlt _ _ h.obj)).trans h.obj, ownsRow_same h.img (fun k hk => ?_), ownsMap_same h.mp (hb.block m h.mp.lt), h.fits, ownsRow_same h.ord (fun k hk => ?_), h.flt.same (fun k hk => ?_), h.apart⟩
  · obtain ⟨cur, hc⟩ := ownsRow_block h.img hk
    exact hb.block k (hlt _ _ hc)
  · obtain ⟨cur, hc⟩ := ownsRow_block h.ord hk
    exact hb.block k (hlt _ _ hc)
  · obtain ⟨_, _, _, hk'⟩ := h.flt.block hk
    exact hb.block k (hlt _ _ hk')
theorem Foot.below {S : Nat → Prop} {w' : World} (F : Foot S w g ib m vo vf) (hs : w.heap.size ≤ w'.heap.size) : Foot S w' g ib m vo vf := ⟨F.g, F.ib, F.m, F.o, F.f, fun k hk => Nat.lt_of_lt_of_le (F.lt k hk) hs⟩
/-- The order made longer by one. -/
theorem PreW.extend {S : Nat → Prop} {w3 : World} {v3 : Value} {n : Nat} (h : PreW w g s ks ib ic m vo vf D) (F : Foot S w g ib m vo vf) (hg : w.grownBy w3 vo.ownBlock) (ho : w3.ownsRow 0 3 1 v3 (ks.length + 1) (inz ks ++ [.int .i64 (n : Int)]))
    (hw : v3.ownBlock = vo.ownBlock ∨ v3.ownBlock = some w.heap.size) :
    PreW (w3.setCell ⟨g, 2, none⟩ v3) g s (ks ++ [n]) ib ic m v3 vf D ∧ Foot (more S w w3) (w3.setCell ⟨g, 2, none⟩ v3) g ib m v3 vf ∧ Trn S w (w3.setCell ⟨g, 2, none⟩ v3) := by
  have hb : ∀ k, k < w.heap.size → k ≠ g → vo.ownBlock ≠ some k → (w3.setCell ⟨g, 2, none⟩ v3).heap[k]? = w.heap[k]? := fun k hk e1 e2 => (heap_cell_other e1).trans (hg.block k hk (fun e => e2 e.symm))
  have h3 : ∀ k, v3.ownBlock = some k → more S w w3 k := fun k hk => by
    rcases hw with e | e
    · exact .inl (F.o k (e ▸ hk))
    · rw [e] at hk
      injection hk with hk
      subst hk
      exact .inr ⟨Nat.le_refl _, (World.ownsRow.lt ho _ e).2⟩
  have hog : vo.ownBlock ≠ some g := fun e => (h.o_tag e).1 rfl
  have hob : vo.ownBlock ≠ some ib := fun e => (h.o_tag e).2.1 rfl
  have hom : vo.ownBlock ≠ some m := fun e => (h.o_tag e).2.2 rfl
  have h3g : w3.heap[g]? = _ := (hg.block g (F.lt g F.g) (fun e => hog e.symm)).trans h.obj
  refine ⟨⟨?_, ownsRow_same h.img (fun k hk => ?_), ownsMap_same h.mp (hb m (F.lt m F.m) (map_ne h.mp h.obj) hom), h.fits, ?_, h.flt.same (fun k hk => hb k (F.lt k (F.f k hk)) (h.f_tag hk).1 (h.apart k hk)), fun f hf => ?_⟩,
    ⟨.inl F.g, .inl F.ib, .inl F.m, h3, fun k hk => .inl (F.f k hk), ?_⟩, ?_⟩
  · simp [World.setCell, Array.getElem?_modify, h3g]
  · simp [Value.ownBlock] at hk
    subst hk
    exact hb ib (F.lt ib F.ib) h.ib_g hob
  · have e1 : inz (ks ++ [n]) = inz ks ++ [.int .i64 (n : Int)] := by simp [inz]
    rw [e1, List.length_append]
    refine ownsRow_same ho (fun k hk => heap_cell_other ?_)
    rintro rfl
    obtain ⟨cur, hc⟩ := ownsRow_block ho hk
    exact tag_ne hc h3g (by decide) rfl
  · intro e
    rcases hw with e2 | e2
    · exact h.apart f hf (e2 ▸ e)
    · rw [e2] at e
      injection e with e
      have := F.lt f (F.f f hf)
      omega
  · intro k hk
    rw [setCell_size]
    exact more_lt hg.size F.lt k hk
  · exact (Trn.of_grown hg (fun i hi => F.o i hi)).setCell _ (fun _ => F.g)
end

def writeR (s : St) (x : Int) (l : List UInt8) : Nat × St := if (0 ≤ x ∧ x < ((secs s : Nat) : Int)) ∧ l.length = 512 then (if blows s.F then (8, tick s) else (0, writeS (tick s) x.toNat l)) else (2, s)

set_option maxRecDepth 100000 in
set_option maxHeartbeats 4000000 in
/-- From the map's store on. -/
theorem write_bad (w : World) (S : Nat → Prop) (g : Nat) (s : St) (x : Int) (v : Value) (l : List UInt8) (h : Dsk w S g s) (hv : Byt w v l) (hx : ¬ ((0 ≤ x ∧ x < ((secs s : Nat) : Int)) ∧ l.length = 512)) :
    Calls Tryd.prog 87 #[.pointer (some ⟨g, 0, none⟩), .int .i64 x, v] w (Done w S g (writeR s x l)) := by
  obtain ⟨ib, ic, m, vo, vf, hd, _, _⟩ := h.parts
  have HM := Lib.hid (made_is w g ib ic m _ vo vf hd h.ok.pos)
  have HH := Lib.hid (has_is w g ib ic m _ vo vf x hd h.ok.pos)
  rw [show s.B.length / 512 = secs s from rfl] at HH
  have H := Lib.hid h
  have HR : Hid (writeR s x l = (2, s)) := by rw [Hid]; unfold writeR; rw [if_neg hx]
  obtain ⟨A, n, c, rfl, N, hnc, hcm⟩ := hv.form
  clear h hd hv
  by_cases h1 : 0 ≤ x ∧ x < ((secs s : Nat) : Int)
  · rw [show decide (0 ≤ x ∧ x < ((secs s : Nat) : Int)) = true by simp [h1]] at HH
    have hl : ((n : Int) == 512) = false := by have := N.out; simp; omega
    clear hx h1
    go_enter Tryd.func87, Tryd.ntmps87
    go_wp2_with fail
    refine HM.out.mono ?_
    rintro e w1 ⟨rfl, rfl⟩
    go_wp2_with fail
    refine HH.out.mono ?_
    rintro e w1 ⟨rfl, rfl⟩
    go_wp2_with fail
    go_ret
    rw [HR.out]
    exact ⟨rfl, H.out.more (Nat.le_refl _) H.out.lt, Trn.refl _ _⟩
  · rw [show decide (0 ≤ x ∧ x < ((secs s : Nat) : Int)) = false by simp [h1]] at HH
    clear hx h1
    go_enter Tryd.func87, Tryd.ntmps87
    go_wp2_with fail
    refine HM.out.mono ?_
    rintro e w1 ⟨rfl, rfl⟩
    go_wp2_with fail
    refine HH.out.mono ?_
    rintro e w1 ⟨rfl, rfl⟩
    go_wp2_with fail
    go_ret
    rw [HR.out]
    exact ⟨rfl, H.out.more (Nat.le_refl _) H.out.lt, Trn.refl _ _⟩
theorem write_nil (w : World) (x : Int) (v : Value) (l : List UInt8) (hv : Byt w v l) : Calls Tryd.prog 87 #[.pointer none, .int .i64 x, v] w fun e w' => e = .returned (.int .i64 1) ∧ w = w' := by
  obtain ⟨A, n, c, rfl, N, hnc, hcm⟩ := hv.form
  clear hv
  go_enter Tryd.func87, Tryd.ntmps87
  go_wp2_with fail
  refine (made_nil _).mono ?_
  rintro e w1 ⟨rfl, rfl⟩
  go_wp2_with fail
  go_ret
  exact ⟨rfl, rfl⟩
end Go.Proofs.YtknagdbhhfelnaaDoor

/-
  Package sector: Write, where it is done or fails by a fault. Conditions: none but that the disk lies there, and what is handed in apart from it.
-/
namespace Go.Proofs.YtknagdbhhfelnaaDoor
open Go.RowKit Go.Maps
set_option maxRecDepth 100000

theorem arrayRun (A : Option Addr) (c : Nat) : ∀ W, (Instr.arrayAt 149 (.slice A 512 c)).run Tryd.prog W = .ok (.pointer A) W := fun W => run_arrayAt W 149 5 512 A 512 c rowUnder (Nat.le_refl _)
theorem store_run {w : World} {g ib ic m : Nat} {s : St} {ks : List Nat} {vo vf : Value} {D : DataW Unit} (h : PreW w g s ks ib ic m vo vf D) (ok : OkSt s) {n : Nat} {l : List UInt8} (hn : n ≤ 9223372036854775807) (hl : l.length = 512) :
    ∃ w', (Instr.mapUpdate 104 (.map (some m)) (.int .i64 (n : Int)) (.agg (byc l).toArray)).run Tryd.prog w = .ok () w' ∧ w'.ownsMap Tryd.prog 3 rowE m (s.C.length + 1) (D.put (keyL n) (.lit (.string l))) ∧ w.grownBy w' (some m) :=
  h.mp.update intKeyed mapUnder (by have := ok.cnt; simp only [maxLen]; omega) (keyOf_int_mk Tryd.underlying3 (keyL_wf hn)) (rowE_mk l hl)

theorem PreW.drew {w : World} {g ib ic m : Nat} {s : St} {ks : List Nat} {vo vf : Value} {D : DataW Unit} (h : PreW w g s ks ib ic m vo vf D) : PreW w.drew g s ks ib ic m vo vf D := ⟨h.obj, h.img, h.mp, h.fits, h.ord, h.flt, h.apart⟩
theorem Foot.drew {S : Nat → Prop} {w : World} {g ib m : Nat} {vo vf : Value} (F : Foot S w g ib m vo vf) : Foot S w.drew g ib m vo vf := ⟨F.g, F.ib, F.m, F.o, F.f, F.lt⟩
theorem Trn.drew {S : Nat → Prop} {a b : World} (h : Trn S a b) : Trn S a b.drew := ⟨h.os, h.tape, h.output, h.size, h.block⟩

theorem extend_all {w w2 w3 : World} {S : Nat → Prop} {g ib ic m n : Nat} {s : St} {ks : List Nat} {vo vf v3 : Value} {D : DataW Unit} (h : PreW w g s ks ib ic m vo vf D) (F : Foot S w g ib m vo vf) (hb : Below w.heap.size w w2)
    (hg : (w2.alloc (.cells #[.int .i64 (n : Int)] 3)).grownBy w3 vo.ownBlock) (ho : w3.ownsRow 0 3 1 v3 (ks.length + 1) (inz ks ++ [.int .i64 (n : Int)])) (hw : v3.ownBlock = vo.ownBlock ∨ v3.ownBlock = some (w2.alloc (.cells #[.int .i64 (n : Int)] 3)).heap.size) :
    (PreW (w3.setCell ⟨g, 2, none⟩ v3) g s (ks ++ [n]) ib ic m v3 vf D ∧ Foot (more S (w2.alloc (.cells #[.int .i64 (n : Int)] 3)) w3) (w3.setCell ⟨g, 2, none⟩ v3) g ib m v3 vf ∧ Trn S (w2.alloc (.cells #[.int .i64 (n : Int)] 3)) (w3.setCell ⟨g, 2, none⟩ v3)) ∧ w3.cell? ⟨g, 2, none⟩ = some vo ∧ w3.frozen? ⟨g, 2, none⟩ = false := by
  have h2 := (h.below hb).alloc (.cells #[.int .i64 (n : Int)] 3)
  have F2 : Foot S (w2.alloc (.cells #[.int .i64 (n : Int)] 3)) g ib m vo vf := (F.below hb.size).below (by simp)
  have hob := (hg.block g (F2.lt g F2.g) (fun e => (h2.o_tag e.symm).1 rfl)).trans h2.obj
  obtain ⟨_, _, d2, _, _, f2, _⟩ := obj_cells hob
  exact ⟨h2.extend F2 hg ho hw, d2, f2⟩

set_option maxRecDepth 100000 in
set_option maxHeartbeats 4000000 in
theorem write_ok (w : World) (S : Nat → Prop) (g : Nat) (s : St) (n : Nat) (v : Value) (l : List UInt8) (h : Dsk w S g s) (hv : Byt w v l) (hne : ∀ k, v.ownBlock = some k → ¬ S k) (hn : n < secs s) (hl : l.length = 512) :
    Calls Tryd.prog 87 #[.pointer (some ⟨g, 0, none⟩), .int .i64 (n : Int), v] w (Done w S g (writeR s (n : Int) l)) := by
  obtain ⟨ib, ic, m, vo, vf, hd, _, _⟩ := h.parts
  have HM := Lib.hid (made_is w g ib ic m _ vo vf hd h.ok.pos)
  have HH := Lib.hid (has_is w g ib ic m _ vo vf (n : Int) hd h.ok.pos)
  rw [show s.B.length / 512 = secs s from rfl, show decide (0 ≤ (n : Int) ∧ (n : Int) < ((secs s : Nat) : Int)) = true by simp; omega] at HH
  have HF := Lib.hid (fails_is w S g s h)
  have HL := Lib.hid h.lt
  have hok := h.ok
  have hns : n ≤ 9223372036854775807 := by have := hok.few; omega
  have HV := Lib.hid hv
  have HNE := Lib.hid hne
  obtain ⟨A, q, c, rfl, N, hnc, hcm⟩ := hv.form
  obtain rfl : q = 512 := N.out.trans hl
  obtain ⟨b, off, rfl, hb0, hc0⟩ : ∃ b off, A = some ⟨b, off, none⟩ ∧ b < w.heap.size ∧ ∀ j (hj : j < l.length), w.cell? ⟨b, off + j, none⟩ = some (.int .u8 (l[j].toNat : Int)) := hv.at (k := 0) (by omega)
  have HB0 := Lib.hid hb0
  have HC0 := Lib.hid hc0
  have HLL := Lib.hid hl
  have HN := Lib.hid hn
  clear h hd hv hne N hb0 hc0
  cases hbl : blows s.F
  · have HR : Hid (writeR s (n : Int) l = (0, writeS (tick s) n l)) := by
      rw [Hid]; unfold writeR; rw [if_pos ⟨⟨by omega, by omega⟩, hl⟩, hbl]; rfl
    unfold Failed at HF
    rw [hbl] at HF
    clear hbl hn hl
    have Z := rowZero
    have HZ := Lib.hid zero512_len
    go_enter Tryd.func87, Tryd.ntmps87
    go_wp2_with fail
    refine HM.out.mono ?_
    rintro e w1 ⟨rfl, rfl⟩
    go_wp2_with fail
    refine HH.out.mono ?_
    rintro e w1 ⟨rfl, rfl⟩
    go_wp2_with fail
    refine HF.out.mono ?_
    rintro e w1 ⟨rfl, hd1, ht1, hs1⟩
    have HT1 := Lib.hid ht1
    have HS1 := Lib.hid hs1
    obtain ⟨ib1, ic1, m1, vo1, vf1, D1, ha1, F1, ok1⟩ := hd1
    obtain ⟨_, c1, _, _, _, _, _⟩ := obj_cells ha1.obj
    obtain ⟨l', hl', LK, _⟩ := look_ok ha1.mp ha1.fits (n := n) hns
    have HP1 := Lib.hid ha1.pre
    have HF1 := Lib.hid F1
    have HO1 := Lib.hid ok1
    have HL1 := Lib.hid hl'
    have hCt : (tick s).C = s.C := rfl
    rw [hCt] at LK
    clear ht1 hs1 ha1 F1 ok1 hl'
    generalize zero512 = z0 at *
    have AR := arrayRun (some ⟨b, off, none⟩) c
    cases hc : lookC s.C n with
    | some x =>
      rw [hc] at LK
      have HK : Hid (keysC (tick s).C = keysC (putC (tick s).C n l)) := by rw [Hid, hCt, put_has l hc]
      clear hc hCt
      rw [Option.isSome_some] at LK
      go_wp2_with (refine wpList_storeRow z0 l' HZ.out HL1.out rfl _ _ rfl rfl rfl ?_; intro w2 hr2 hb2 hs2)
      have HB2 := Lib.hid hb2
      have hkk : PreW w2.drew g (tick s) (keysC (putC (tick s).C n l)) ib1 ic1 m1 vo1 vf1 D1 := HK.out ▸ (HP1.out.below hb2).drew
      have HP2 := Lib.hid hkk
      have HT2 := Lib.hid (HT1.out.trans (Trn.of_below hb2 (S := fun _ => False)) (fun _ _ h => h.elim)).drew
      have HF2 := Lib.hid (HF1.out.below HB2.out.size).drew
      have HC2 : Hid (∀ j (hj : j < l.length), w2.drew.cell? ⟨b, off + j, none⟩ = some (.int .u8 (l[j].toNat : Int))) := fun j hj =>
        (World.cell?_of_block (a := ⟨b, off + j, none⟩) (HT2.out.block b HB0.out (HNE.out b rfl))).trans (HC0.out j hj)
      obtain ⟨w3, hrun, hm3, hg3⟩ := store_run HP2.out HO1.out (n := n) (l := l) hns HLL.out
      have HD3 := Lib.hid (HP2.out.wrote HF2.out HO1.out HN.out HLL.out hm3 hg3)
      have HG3 := Lib.hid (HT2.out.trans (Trn.of_grown (S := S) hg3 (fun i hi => by injection hi with hi; exact hi ▸ HF2.out.m)) (fun _ _ h => h))
      have HCM := Lib.hid (obj_cells HP2.out.obj).2.1
      clear hb2 hr2 hm3 hg3 hkk HP2 c1
      refine wp_region_T (R := fun x y => x = y) (by kernel_rfl) (fun _ => rfl) (fun h k => h.trans k) (by kernel_rfl) 8 rfl (by kernel_rfl) (by kernel_rfl) (fun d v c a w h => by cases d <;> exact h)
        [(0, false), (1, false), (2, false), (3, false), (4, false), (5, false), (6, false), (7, false)] rfl (by kernel_rfl) ?_
      simp only [sel, List.getElem?_toArray, List.getElem?_cons_succ, List.getElem?_cons_zero]
      generalize w2.drew = wd at *
      iterate 3 (refine schT_take ?_ rfl ?_ ?_; rotate_left; (focus (intro u hu; go_simp <;> rfl)); simp only [Act.put, List.setIfInBounds_toArray, List.set_cons_zero, List.set_cons_succ])
      (refine schT_take ?_ rfl ?_ ?_; rotate_left; (focus (intro u hu; have hc := hu ▸ HCM.out; clear hu; go_simp <;> rfl)); simp only [Act.put, List.setIfInBounds_toArray, List.set_cons_zero, List.set_cons_succ])
      iterate 3 (refine schT_take ?_ rfl ?_ ?_; rotate_left; (focus (intro u hu; go_simp <;> rfl)); simp only [Act.put, List.setIfInBounds_toArray, List.set_cons_zero, List.set_cons_succ])
      refine schT_take _ rfl (fun u hu => exec_loadSector _ rfl b off rfl HLL.out (fun j hj => hu ▸ HC2.out j hj)) ?_
      simp only [Act.put, List.setIfInBounds_toArray, List.set_cons_zero, List.set_cons_succ]
      refine schT_nil ?_
      refine schT_last rfl rfl ?_
      go_simp
      go_wp2_with fail
      go_ret
      rw [HR.out]
      exact ⟨rfl, HD3.out.more HG3.out.size HL.out, HG3.out⟩
    | none =>
      rw [hc] at LK
      have HK : Hid (keysC (tick s).C ++ [n] = keysC (putC (tick s).C n l)) := by rw [Hid, hCt, put_new l hc]; simp [keysC]
      clear hc hCt
      rw [Option.isSome_none] at LK
      obtain ⟨i0, hi0, hz0, hz1, hz2⟩ := info_parts iinfo
      have HCN : Hid ((keysC (tick s).C).length ≤ 32768) := by rw [Hid, keysC_len]; exact HO1.out.cnt
      go_wp2_with (first
        | (refine wpList_storeRow z0 l' HZ.out HL1.out rfl _ _ rfl rfl rfl ?_; intro w2 hr2 hb2 hs2; obtain ⟨_, _, c2, _, _, _, _⟩ := obj_cells (HP1.out.below hb2).obj; have HB2 := Lib.hid hb2; clear hb2 hr2)
        | (at_builtin; refine wpList_append_own_at _ rfl (.tmp 38) (.tmp 40) _ rfl 0 3 i0 _ 1 8 Tryd.underlying26 hi0 hz0 hz1 hz2 rfl (by omega) _ (keysC (tick s).C).length (inz (keysC (tick s).C)) rfl (World.ownsRow.alloc (HP1.out.below HB2.out).ord _) ⟨w2.heap.size, 0, none⟩ 1 1 [.int .i64 (n : Int)] rfl rfl (cell_one_new _ _ _) (by simp [Value.oneCell']) (by have := HCN.out; simp only [maxLen]; omega) (by have := HCN.out; omega) (Nat.zero_le _) ?_; intro v3 w3 hown3 hg3 _ hat3; obtain ⟨A3, n3, c3, rfl, N3, _, _⟩ := (ints_rowz hown3).form; obtain ⟨hx, d2, f2⟩ := extend_all HP1.out HF1.out HB2.out hg3 hown3 hat3; have HX := Lib.hid hx; clear hown3 hg3 hat3 hx))
      have HT2 := Lib.hid (((HT1.out.trans (Trn.of_below HB2.out (S := fun _ => False)) (fun _ _ h => h.elim)).alloc (.cells #[.int .i64 (n : Int)] 3)).trans HX.out.2.2 (fun _ _ h => h)).drew
      have hkk : PreW (w3.setCell ⟨g, 2, none⟩ (.slice A3 n3 c3)).drew g (tick s) (keysC (putC (tick s).C n l)) ib1 ic1 m1 (.slice A3 n3 c3) vf1 D1 := HK.out ▸ HX.out.1.drew
      have HP2 := Lib.hid hkk
      have HF2 := Lib.hid HX.out.2.1.drew
      have HC2 : Hid (∀ j (hj : j < l.length), (w3.setCell ⟨g, 2, none⟩ (.slice A3 n3 c3)).drew.cell? ⟨b, off + j, none⟩ = some (.int .u8 (l[j].toNat : Int))) := fun j hj =>
        (World.cell?_of_block (a := ⟨b, off + j, none⟩) (HT2.out.block b HB0.out (HNE.out b rfl))).trans (HC0.out j hj)
      obtain ⟨w4, hrun, hm3, hg3⟩ := store_run HP2.out HO1.out (n := n) (l := l) hns HLL.out
      have HD3 := Lib.hid (HP2.out.wrote HF2.out HO1.out HN.out HLL.out hm3 hg3)
      have HG3 := Lib.hid (HT2.out.trans (Trn.of_grown (S := S) hg3 (fun i hi => by injection hi with hi; exact hi ▸ HF1.out.m)) (fun _ _ h => h))
      have HZ3 : Hid (w.heap.size ≤ (w2.alloc (.cells #[.int .i64 (n : Int)] 3)).heap.size ∧ w3.heap.size ≤ w4.heap.size) := ⟨by have := HS1.out; have := HB2.out.size; simp; omega, by have := hg3.size; rw [show (w3.setCell ⟨g, 2, none⟩ (.slice A3 n3 c3)).drew.heap.size = w3.heap.size from setCell_size _ _ _] at this; exact this⟩
      have HCM := Lib.hid (obj_cells HP2.out.obj).2.1
      clear hm3 hg3 hkk HP2 HX c1 c2 d2 f2
      refine wp_region_T (R := fun x y => x = y) (by kernel_rfl) (fun _ => rfl) (fun h k => h.trans k) (by kernel_rfl) 8 rfl (by kernel_rfl) (by kernel_rfl) (fun d v c a w h => by cases d <;> exact h)
        [(0, false), (1, false), (2, false), (3, false), (4, false), (5, false), (6, false), (7, false)] rfl (by kernel_rfl) ?_
      simp only [sel, List.getElem?_toArray, List.getElem?_cons_succ, List.getElem?_cons_zero]
      generalize (w3.setCell ⟨g, 2, none⟩ (.slice A3 n3 c3)).drew = wd at *
      iterate 3 (refine schT_take ?_ rfl ?_ ?_; rotate_left; (focus (intro u hu; go_simp <;> rfl)); simp only [Act.put, List.setIfInBounds_toArray, List.set_cons_zero, List.set_cons_succ])
      (refine schT_take ?_ rfl ?_ ?_; rotate_left; (focus (intro u hu; have hc := hu ▸ HCM.out; clear hu; go_simp <;> rfl)); simp only [Act.put, List.setIfInBounds_toArray, List.set_cons_zero, List.set_cons_succ])
      iterate 3 (refine schT_take ?_ rfl ?_ ?_; rotate_left; (focus (intro u hu; go_simp <;> rfl)); simp only [Act.put, List.setIfInBounds_toArray, List.set_cons_zero, List.set_cons_succ])
      refine schT_take _ rfl (fun u hu => exec_loadSector _ rfl b off rfl HLL.out (fun j hj => hu ▸ HC2.out j hj)) ?_
      simp only [Act.put, List.setIfInBounds_toArray, List.set_cons_zero, List.set_cons_succ]
      refine schT_nil ?_
      refine schT_last rfl rfl ?_
      go_simp
      go_wp2_with fail
      go_ret
      rw [HR.out]
      refine ⟨rfl, HD3.out.wide ?_ (more_lt HG3.out.size HL.out), HG3.out⟩
      rintro k (hk | hk)
      · exact .inl hk
      · exact .inr ⟨Nat.le_trans HZ3.out.1 hk.1, Nat.lt_of_lt_of_le hk.2 HZ3.out.2⟩
  · have HR : Hid (writeR s (n : Int) l = (8, tick s)) := by
      rw [Hid]; unfold writeR; rw [if_pos ⟨⟨by omega, by omega⟩, hl⟩, hbl]; rfl
    unfold Failed at HF
    rw [hbl] at HF
    clear hbl hn hl
    go_enter Tryd.func87, Tryd.ntmps87
    go_wp2_with fail
    refine HM.out.mono ?_
    rintro e w1 ⟨rfl, rfl⟩
    go_wp2_with fail
    refine HH.out.mono ?_
    rintro e w1 ⟨rfl, rfl⟩
    go_wp2_with fail
    refine HF.out.mono ?_
    rintro e w1 ⟨rfl, hd1, ht1, hs1⟩
    have HD1 := Lib.hid hd1
    have HT1 := Lib.hid ht1
    clear hd1 ht1 hs1
    go_wp2_with fail
    go_ret
    rw [HR.out]
    exact ⟨rfl, HD1.out.more HT1.out.size HL.out, HT1.out⟩
end Go.Proofs.YtknagdbhhfelnaaDoor

/-
  The small functions of the statements of layer 4, and the kit's: row, bytes, Ints, Crash, LightCrash, by their contracts. Conditions: none.
-/
namespace Go.Proofs.YtknagdbhhfelnaaDoor
open Go.RowKit Go.Maps
set_option maxRecDepth 100000

def rowB (v : UInt8) : List UInt8 := List.replicate 512 v
theorem rowB_len (v : UInt8) : (rowB v).length = 512 := List.length_replicate
def fillB (v : UInt8) (k : Nat) : List UInt8 := List.replicate k v ++ List.replicate (512 - k) 0
theorem fillB_len (v : UInt8) (k : Nat) (hk : k ≤ 512) : (fillB v k).length = 512 := by
  unfold fillB
  rw [List.length_append, List.length_replicate, List.length_replicate]
  omega
theorem fillB_set (v : UInt8) (k : Nat) (hk : k < 512) : (byc (fillB v k)).set k (.int .u8 (v.toNat : Int)) = byc (fillB v (k + 1)) := by
  have h1 : (byc (fillB v k)).set k (.int .u8 (v.toNat : Int)) = byc ((fillB v k).set k v) := by simp [byc, List.map_set]
  rw [h1]
  congr 1
  unfold fillB
  rw [List.set_append_right _ _ (by rw [List.length_replicate]; exact Nat.le_refl _), List.length_replicate, Nat.sub_self, show 512 - k = (512 - (k + 1)) + 1 by omega, List.replicate_succ, List.set_cons_zero, List.replicate_succ']
  simp
theorem fillB_all (v : UInt8) : fillB v 512 = rowB v := List.append_nil _
def RowRel (w : World) (v : UInt8) (i : Value) (wr : World) : Prop :=
  ∃ k : Nat, k ≤ 512 ∧ i = .int .i64 (k : Int) ∧ wr.ownsRow w.heap.size 5 1 (.slice (some ⟨w.heap.size, 0, none⟩) 512 512) 512 (byc (fillB v k)) ∧ Below w.heap.size w wr
def IntsRel (l m : List Nat) (i : Value) (w wr : World) : Prop := ∃ k : Nat, k ≤ l.length ∧ i = .int .i64 (k : Int) ∧ l.take k = m.take k ∧ Below w.heap.size w wr
theorem inz_get (l : List Nat) (k : Nat) (hk : k < (inz l).length) : (inz l)[k] = .int .i64 ((l[k]'(by rw [inz_len] at hk; exact hk) : Nat) : Int) := by simp [inz]
set_option maxRecDepth 100000 in
set_option maxHeartbeats 1000000 in
theorem kints_any (w : World) (va vb : Value) (l m : List Nat) (ha : Rowz w va (inz l)) (hb : Rowz w vb (inz m)) :
    Calls Tryd.prog 16 #[va, vb] w fun e w' => e = .returned (.bool (decide (l = m))) ∧ Below w.heap.size w w' := by
  obtain ⟨A1, n1, c1, rfl, N1, hnc1, hcm1⟩ := ha.form
  obtain ⟨A2, n2, c2, rfl, N2, hnc2, hcm2⟩ := hb.form
  rw [inz_len] at N1 N2
  have HA := Lib.hid ha
  have HB := Lib.hid hb
  clear ha hb
  by_cases hl : l.length = m.length
  · obtain rfl : n1 = n2 := by have := N1.out; have := N2.out; omega
    go_enter Tryd.func16, Tryd.ntmps16
    go_wp2_with fail
    go_loopw [5] (fun i wr => IntsRel l m i w wr) (fun i _ => n1 - (intOf i).toNat)
    case atStart => exact ⟨0, by omega, rfl, rfl, Below.refl _ _⟩
    case round =>
      obtain ⟨k, hk, rfl, htake, hbel⟩ := hrel
      have HT := Lib.hid htake
      have HL := Lib.hid hbel
      by_cases h : k < l.length
      · obtain ⟨b1, o1, rfl, hb1, hc1⟩ := (HA.out.below hbel).at (k := k) (by rw [inz_len]; exact h)
        obtain ⟨b2, o2, rfl, hb2, hc2⟩ := (HB.out.below hbel).at (k := k) (by rw [inz_len]; omega)
        have d1 := hc1 k (by rw [inz_len]; exact h)
        have d2 := hc2 k (by rw [inz_len]; omega)
        rw [inz_get] at d1 d2
        have hkn : (k : Int) < (n1 : Int) := by have := N1.out; omega
        have HD1 := Lib.hid (show wr.drew.cell? _ = _ from d1)
        have HD2 := Lib.hid (show wr.drew.cell? _ = _ from d2)
        have HT1 : Hid (l.take (k + 1) = l.take k ++ [l[k]]) := List.take_succ_eq_append_getElem h
        have HT2 : Hid (m.take (k + 1) = m.take k ++ [m[k]'(by omega)]) := List.take_succ_eq_append_getElem (by omega)
        have HLD := Lib.hid (show Below w.heap.size w wr.drew from HL.out.drew)
        have HNE : Hid (l[k] ≠ m[k]'(by omega) → decide (l = m) = false) := fun hne => by
          rw [decide_eq_false_iff_not]; rintro rfl; exact hne rfl
        clear hc1 hc2 d1 d2 hb1 hb2 htake hbel HL
        generalize m[k]'(by omega) = y at *
        generalize l[k] = x at *
        go_wp2_with fail
        refine wp_region_R (R := fun x y => x = y) (by kernel_rfl) (fun _ => rfl) (fun h k => h.trans k) (by kernel_rfl) (fun d v c a w h => by cases d <;> exact h)
          [(0, false), (1, false), (2, false), (3, false), (4, false), (5, false), (6, false), (7, false), (8, false)] rfl (by kernel_rfl) (by kernel_rfl) ?_
        simp only [sel, List.getElem?_toArray, List.getElem?_cons_succ, List.getElem?_cons_zero]
        generalize wr.drew = wd at *
        iterate 3 (refine sch_take ?_ rfl ?_ ?_; rotate_left; (focus (intro u hu; go_simp <;> rfl)); simp only [Act.put, List.setIfInBounds_toArray, List.set_cons_zero, List.set_cons_succ])
        (refine sch_take ?_ rfl ?_ ?_; rotate_left; (focus (intro u hu; have hc := hu ▸ HD1.out; clear hu; go_simp <;> rfl)); simp only [Act.put, List.setIfInBounds_toArray, List.set_cons_zero, List.set_cons_succ])
        iterate 3 (refine sch_take ?_ rfl ?_ ?_; rotate_left; (focus (intro u hu; go_simp <;> rfl)); simp only [Act.put, List.setIfInBounds_toArray, List.set_cons_zero, List.set_cons_succ])
        (refine sch_take ?_ rfl ?_ ?_; rotate_left; (focus (intro u hu; have hc := hu ▸ HD2.out; clear hu; go_simp <;> rfl)); simp only [Act.put, List.setIfInBounds_toArray, List.set_cons_zero, List.set_cons_succ])
        (refine sch_take ?_ rfl ?_ ?_; rotate_left; (focus (intro u hu; go_simp <;> rfl)); simp only [Act.put, List.setIfInBounds_toArray, List.set_cons_zero, List.set_cons_succ])
        refine sch_nil ?_
        by_cases hxy : x = y
        · subst hxy
          have hq : ((x : Int) == (x : Int)) = true := by simp
          go_wp2_with fail
          go_roundw
          case rel => exact ⟨k + 1, by omega, by go_num, by rw [HT1.out, HT2.out, HT.out], HLD.out⟩
          case measure => simp [intOf]; omega
        · have hq := ne_int hxy
          have HF := Lib.hid (HNE.out hxy)
          go_wp2_with fail
          go_ret
          exact ⟨by rw [HF.out]; rfl, HLD.out⟩
      · have hkn : ¬ (k : Int) < (n1 : Int) := by have := N1.out; omega
        have HE : Hid (decide (l = m) = true) := by
          rw [Hid, decide_eq_true_iff]
          rw [List.take_of_length_le (by omega), List.take_of_length_le (by omega)] at htake
          exact htake
        clear htake hbel
        go_wp2_with fail
        go_ret
        exact ⟨by rw [HE.out]; rfl, HL.out⟩
  · have hn : ((n1 : Int) == (n2 : Int)) = false := ne_int (by have := N1.out; have := N2.out; omega)
    have HE : Hid (decide (l = m) = false) := by
      rw [Hid, decide_eq_false_iff_not]
      rintro rfl
      exact hl rfl
    go_enter Tryd.func16, Tryd.ntmps16
    go_wp2_with fail
    go_ret
    exact ⟨by rw [HE.out]; rfl, Below.refl _ _⟩

theorem binfo : (Tryd.prog.info? 4).map (fun i => (i.zero, i.size, i.bytes)) = some (some (.bool false), 1, 1) := by kernel_rfl
theorem bools_one (l : List Bool) : ∀ u ∈ l.map Value.bool, u.oneCell' = true := by
  intro u hu
  obtain ⟨b, _, rfl⟩ := List.mem_map.1 hu
  rfl
theorem Rowz.news {w : World} {A : Addr} {n c : Nat} {vs : List Value} (h : Rowz w (.slice (some A) n c) vs) : ∀ j u, vs[j]? = some u → w.cell? (A.add j) = some u := by
  intro j u hu
  obtain ⟨hj, rfl⟩ := List.getElem?_eq_some_iff.1 hu
  obtain ⟨b, off, e, _, hc⟩ := h.at hj
  injection e with e
  subst e
  rw [plainAdd]
  exact hc j hj
theorem bools_rowz {w : World} {B : Nat} {v : Value} {n : Nat} {xs : List Value} (h : w.ownsRow B 4 1 v n xs) : Rowz w v xs := by
  have hl : xs.length = n := by simpa using h.1
  rcases h.2 with ⟨rfl, h0⟩ | ⟨g, cap, cur, rfl, hb, hg, h1, h2, h3, h4⟩
  · obtain rfl : xs = [] := List.eq_nil_of_length_eq_zero (by omega)
    exact Rowz.nil w
  · refine ⟨_, cap, by rw [hl], by omega, h2, .inr ⟨g, 0, rfl, (Array.getElem?_eq_some_iff.1 hg).1, fun j hj => ?_⟩⟩
    have := World.ownsRow.cells h (g := g) rfl j xs[j] (List.getElem?_eq_getElem hj)
    rw [plainAdd] at this
    exact this
end Go.Proofs.YtknagdbhhfelnaaDoor

/-
  The examples that each statement of layer 4 asks first. Conditions: none.
-/
namespace Go.Proofs.YtknagdbhhfelnaaDoor
open Go.RowKit Go.Maps
set_option maxRecDepth 100000

/-! The disk of the examples. -/
theorem secs_write (s : St) (n : Nat) (l : List UInt8) : secs (writeS s n l) = secs s := rfl
theorem write_done (s : St) (n : Nat) (l : List UInt8) (hF : s.F = none) (hn : n < secs s) (hl : l.length = 512) : writeR s (n : Int) l = (0, writeS s n l) := by
  obtain ⟨B, C, F⟩ := s
  have hF' : F = none := hF
  subst hF'
  unfold writeR
  rw [if_pos ⟨⟨by omega, by omega⟩, hl⟩]
  rfl
theorem read_done (s : St) (n : Nat) (hF : s.F = none) (hn : n < secs s) : readR s (n : Int) = (readB s n, 0, s) := by
  obtain ⟨B, C, F⟩ := s
  have hF' : F = none := hF
  subst hF'
  unfold readR
  rw [if_pos ⟨by omega, by omega⟩]
  rfl
theorem read_crash (s : St) (keep : List Bool) (torn bytes : Int) (n : Nat) : readB (crashS s keep torn bytes) n = sectB (crashS s keep torn bytes).B n := rfl
theorem crash_two (s : St) (n1 n2 : Nat) (l1 l2 : List UInt8) (hC : s.C = [(n1, l1), (n2, l2)]) (keep : List Bool) (torn bytes : Int) :
    (crashS s keep torn bytes).B = splice (splice s.B (512 * n1) (l1.take (keptN keep torn bytes 0))) (512 * n2) (l2.take (keptN keep torn bytes 1)) := by
  obtain ⟨B, C, F⟩ := s
  have hC' : C = _ := hC
  subst hC'
  rfl
def ex0 : St := newS 4
def ex1 : St := writeS ex0 2 (rowB 97)
def ex2 : St := writeS ex1 0 (rowB 98)
def ex3 : St := crashS ex2 [true] 1 3
theorem ex_s0 : secs ex0 = 4 := secs_new 4
theorem ex_s1 : secs ex1 = 4 := by unfold ex1; rw [secs_write, ex_s0]
theorem ex_s2 : secs ex2 = 4 := by unfold ex2; rw [secs_write, ex_s1]
theorem ex_w1 : writeR ex0 (2 : Int) (rowB 97) = (0, ex1) := write_done ex0 2 (rowB 97) rfl (by rw [ex_s0]; omega) (rowB_len 97)
theorem ex_w2 : writeR ex1 (0 : Int) (rowB 98) = (0, ex2) := write_done ex1 0 (rowB 98) rfl (by rw [ex_s1]; omega) (rowB_len 98)
theorem ex_keys : keysC ex2.C = [2, 0] := rfl
theorem ex_ok0 : OkSt ex0 := OkSt.new (by omega) (by omega)
theorem ex_ok1 : OkSt ex1 := ex_ok0.write (by rw [ex_s0]; omega) (rowB_len 97)
theorem ex_ok2 : OkSt ex2 := ex_ok1.write (by rw [ex_s1]; omega) (rowB_len 98)
theorem ex_s3 : secs ex3 = 4 := by
  have h : secs ex3 = secs (settleS (keptN [true] 1 3) ex2) := rfl
  rw [h, secs_settle _ ex_ok2, ex_s2]
theorem ex_B2 : ex2.B = List.replicate 2048 0 := rfl
theorem ex_len2 : ex2.B.length = 2048 := by rw [ex_B2, List.length_replicate]
theorem ex_B3 : ex3.B = splice (splice (List.replicate 2048 0) 1024 (rowB 97)) 0 [98, 98, 98] := by
  unfold ex3
  rw [crash_two ex2 2 0 (rowB 97) (rowB 98) rfl]
  have h0 : keptN [true] 1 3 0 = 512 := by decide
  have h1 : keptN [true] 1 3 1 = 3 := by decide
  have e0 : (rowB 97).take 512 = rowB 97 := List.take_of_length_le (by rw [rowB_len]; exact Nat.le_refl _)
  have e1 : (rowB 98).take 3 = [98, 98, 98] := by unfold rowB; rw [List.take_replicate]; rfl
  rw [h0, h1, e0, e1, ex_B2]
theorem ex_r2 : readR ex3 (2 : Int) = (rowB 97, 0, ex3) := by
  have h0 : readR ex3 (2 : Int) = (readB ex3 2, 0, ex3) := read_done ex3 2 rfl (by rw [ex_s3]; omega)
  have h : readB ex3 2 = rowB 97 := by
    have h1 : readB ex3 2 = sectB ex3.B 2 := read_crash ex2 _ _ _ 2
    rw [h1, ex_B3]
    unfold sectB splice
    have l1 : (rowB 97).length = 512 := rowB_len 97
    rw [List.take_zero, List.nil_append, List.drop_append, List.drop_drop, List.length_cons, List.length_cons, List.length_cons, List.length_nil]
    rw [show (512 * 2 - (0 + 1 + 1 + 1)) + (0 + (0 + 1 + 1 + 1)) = 1024 by omega]
    rw [List.drop_of_length_le (show [(98 : UInt8), 98, 98].length ≤ 512 * 2 by decide), List.nil_append]
    rw [List.drop_append, List.drop_of_length_le (by rw [List.length_take, List.length_replicate]; omega), List.nil_append, List.length_take, List.length_replicate, show 1024 - min 1024 2048 = 0 by omega, List.drop_zero]
    rw [List.take_append, l1, Nat.sub_self, List.take_zero, List.append_nil, List.take_of_length_le (by rw [l1]; exact Nat.le_refl _)]
  rw [h0, h]
theorem ex_r0 : ∃ l, readR ex3 (0 : Int) = (l, 0, ex3) ∧ l.take 4 = [98, 98, 98, 0] ∧ l.length = 512 := by
  refine ⟨readB ex3 0, ?_, ?_, ?_⟩
  · exact read_done ex3 0 rfl (by rw [ex_s3]; omega)
  · have h1 : readB ex3 0 = sectB ex3.B 0 := read_crash ex2 _ _ _ 0
    rw [h1, ex_B3]
    unfold sectB
    rw [Nat.mul_zero, List.drop_zero, List.take_take, show min 4 512 = 4 by decide]
    obtain ⟨Y, hY⟩ : ∃ Y, splice (List.replicate 2048 (0 : UInt8)) 1024 (rowB 97) = 0 :: 0 :: 0 :: 0 :: Y := by
      unfold splice
      rw [List.take_replicate, show min 1024 2048 = 1020 + 1 + 1 + 1 + 1 by decide, List.replicate_succ, List.replicate_succ, List.replicate_succ, List.replicate_succ]
      exact ⟨_, rfl⟩
    rw [hY]
    rfl
  · have h3 : OkSt ex3 := ex_ok2.crash _ _ _
    exact readB_len h3 (by rw [ex_s3]; omega)

theorem write_any (w : World) (S : Nat → Prop) (g : Nat) (s : St) (x : Int) (v : Value) (l : List UInt8) (h : Dsk w S g s) (hv : Byt w v l) (hne : ∀ k, v.ownBlock = some k → ¬ S k) :
    Calls Tryd.prog 87 #[.pointer (some ⟨g, 0, none⟩), .int .i64 x, v] w (Done w S g (writeR s x l)) := by
  by_cases hx : (0 ≤ x ∧ x < ((secs s : Nat) : Int)) ∧ l.length = 512
  · obtain ⟨n, rfl⟩ := Int.eq_ofNat_of_zero_le hx.1.1
    exact write_ok w S g s n v l h hv hne (by have := hx.1.2; omega) hx.2
  · exact write_bad w S g s x v l h hv hx
theorem Rowz.lit (w : World) (e : TypeId) (vs : List Value) (hl : vs.length ≤ maxLen) : Rowz (w.alloc (.cells vs.toArray e)) (.slice (some ⟨w.heap.size, 0, none⟩) vs.length vs.length) vs := by
  refine ⟨_, vs.length, rfl, Nat.le_refl _, hl, .inr ⟨w.heap.size, 0, rfl, by simp, fun j hj => ?_⟩⟩
  rw [Nat.zero_add, cell_of_row _ _ _ _ _ _ (heap_alloc_new w _)]
  simp [hj]
/-- 'string(v)', to be laid ahead of a walk. -/
theorem stext_of {w : World} {v : Value} {l : List UInt8} (h : Byt w v l) : (convert 27 9 v).run Tryd.prog w = .ok (.string ⟨l.toArray⟩) w :=
  run_text w 27 9 5 Tryd.underlying27 Tryd.underlying5 Tryd.underlying9 v l h
/-- A disk's blocks are all of the call's own. -/
theorem Done.own {w : World} {S : Nat → Prop} {g : Nat} {r : Nat × St} {e : Ending} {w' : World} {B : Nat} (h : Done w S g r e w') (hB : B ≤ w.heap.size) (hS : ∀ k, S k → B ≤ k) :
    e = .returned (.int .i64 ((r.1 : Nat) : Int)) ∧ ∃ S', Dsk w' S' g r.2 ∧ (∀ k, S' k → B ≤ k) ∧ (∀ k, S' k → k < w.heap.size → S k) ∧ Trn S w w' :=
  ⟨h.1, more S w w', h.2.1, fun k hk => hk.elim (hS k) (fun hk => Nat.le_trans hB hk.1), fun _ hk hl => hk.elim id (fun hk => by omega), h.2.2⟩

end Go.Proofs.YtknagdbhhfelnaaDoor

/-
  A disk's sectors behind a flush and behind a crash, as plain lists. Conditions: none.
-/
namespace Go.Proofs.YtknagdbhhfelnaaDoor
set_option maxRecDepth 100000

theorem get_splice {α : Type} (L : List α) (off : Nat) (cs : List α) (h : off + cs.length ≤ L.length) (p : Nat) :
    (splice L off cs)[p]? = if p < off then L[p]? else if p < off + cs.length then cs[p - off]? else L[p]? := by
  unfold splice
  have hl : (L.take off).length = off := by rw [List.length_take]; omega
  rw [List.getElem?_append, hl]
  by_cases h1 : p < off
  · rw [if_pos h1, if_pos h1, List.getElem?_take, if_pos h1]
  · rw [if_neg h1, if_neg h1, List.getElem?_append]
    by_cases h2 : p < off + cs.length
    · rw [if_pos (by omega), if_pos h2]
    · rw [if_neg (by omega), if_neg h2, List.getElem?_drop]
      congr 1
      omega
theorem get_sect (L : List UInt8) (i q : Nat) : (sectB L i)[q]? = if q < 512 then L[512 * i + q]? else none := by
  unfold sectB
  rw [List.getElem?_take]
  by_cases h : q < 512
  · rw [if_pos h, if_pos h, List.getElem?_drop]
  · rw [if_neg h, if_neg h]
theorem sect_other {L : List UInt8} {n i : Nat} {cs : List UInt8} (h : 512 * n + cs.length ≤ L.length) (hc : cs.length ≤ 512) (hi : i ≠ n) : sectB (splice L (512 * n) cs) i = sectB L i := by
  apply List.ext_getElem?
  intro q
  rw [get_sect, get_sect]
  by_cases hq : q < 512
  · rw [if_pos hq, if_pos hq, get_splice _ _ _ h]
    by_cases h1 : 512 * i + q < 512 * n
    · rw [if_pos h1]
    · rw [if_neg h1, if_neg (by omega)]
  · rw [if_neg hq, if_neg hq]
theorem sect_same {L : List UInt8} {n : Nat} {cs : List UInt8} (h : 512 * (n + 1) ≤ L.length) (hc : cs.length ≤ 512) : sectB (splice L (512 * n) cs) n = cs ++ (sectB L n).drop cs.length := by
  apply List.ext_getElem?
  intro q
  rw [get_sect, List.getElem?_append]
  by_cases hq : q < 512
  · rw [if_pos hq, get_splice _ _ _ (by omega), if_neg (by omega)]
    by_cases h1 : q < cs.length
    · rw [if_pos (by omega), if_pos h1]
      congr 1
      omega
    · rw [if_neg (by omega), if_neg h1, List.getElem?_drop, get_sect, if_pos (by omega)]
      congr 1
      omega
  · rw [if_neg hq, if_neg (by omega), List.getElem?_drop, get_sect, if_neg (by omega)]
section
variable {f : Nat → Nat} {B : List UInt8} {C : Cch} {m : Nat} (hB : B.length = 512 * m) (hC : RowsC m C) (hd : (keysC C).Nodup)
include hB hC
theorem settle_none {i : Nat} : ∀ k, k ≤ C.length → (∀ j (hj : j < C.length), j < k → C[j].1 ≠ i) → sectB (settleTo f B C k) i = sectB B i := by
  intro k
  induction k with
  | zero => intro _ _; rfl
  | succ k ih =>
    intro hk hn
    have hr := hC _ (List.getElem_mem (show k < C.length by omega))
    show sectB (splice _ _ _) i = _
    rw [getD_at C k (by omega), sect_other (by rw [settleTo_len f B C m hB hC k (by omega), List.length_take]; omega) (by rw [List.length_take]; omega) (fun e => hn k (by omega) (by omega) e.symm)]
    exact ih (by omega) (fun j hj hjk => hn j hj (by omega))
include hd
theorem settle_some {j : Nat} (hj : j < C.length) : ∀ k, k ≤ C.length → j < k → sectB (settleTo f B C k) C[j].1 = C[j].2.take (f j) ++ (sectB B C[j].1).drop (C[j].2.take (f j)).length := by
  have hinj : ∀ a (ha : a < C.length), C[a].1 = C[j].1 → a = j := fun a ha e => by
    have h1 : (keysC C)[a]'(by rw [keysC_len]; exact ha) = (keysC C)[j]'(by rw [keysC_len]; exact hj) := by simpa [keysC] using e
    have hp := List.pairwise_iff_getElem.1 hd
    rcases Nat.lt_trichotomy a j with hlt | he | hgt
    · exact absurd h1 (hp a j _ _ hlt)
    · exact he
    · exact absurd h1.symm (hp j a _ _ hgt)
  intro k
  induction k with
  | zero => intro _ h; omega
  | succ k ih =>
    intro hk hjk
    have hr := hC _ (List.getElem_mem (show k < C.length by omega))
    have hl := settleTo_len f B C m hB hC k (by omega)
    show sectB (splice _ _ _) _ = _
    rw [getD_at C k (by omega)]
    by_cases e : k = j
    · subst e
      rw [sect_same (by rw [hl]; omega) (by rw [List.length_take]; omega), settle_none hB hC k (by omega) (fun a ha hak h => by have := hinj a ha h; omega)]
    · rw [sect_other (by rw [hl, List.length_take]; omega) (by rw [List.length_take]; omega) (fun h => e (hinj k (by omega) h.symm))]
      exact ih (by omega) (by omega)
end
theorem look_place {C : Cch} {n : Nat} {l : List UInt8} (h : lookC C n = some l) : ∃ j, ∃ hj : j < C.length, C[j].1 = n ∧ C[j].2 = l := by
  induction C with
  | nil => cases h
  | cons y C ih =>
    obtain ⟨a, z⟩ := y
    unfold lookC at h
    by_cases ha : a = n
    · rw [if_pos ha] at h
      injection h with h
      exact ⟨0, by simp, ha, h⟩
    · rw [if_neg ha] at h
      obtain ⟨j, hj, h1, h2⟩ := ih h
      exact ⟨j + 1, by simp; omega, h1, h2⟩
theorem look_off {C : Cch} {n : Nat} (h : lookC C n = none) : ∀ j (hj : j < C.length), C[j].1 ≠ n := fun j hj e =>
  lookC_none h (by rw [← e]; exact List.mem_map_of_mem (List.getElem_mem hj))

/-- Behind a flush a sector is as it was read ahead of it. -/
theorem flush_sect {s : St} (ok : OkSt s) (i : Nat) : sectB (settleS (fun _ => 512) s).B i = readB s i := by
  unfold readB
  cases h : lookC s.C i with
  | none => exact settle_none ok.whole ok.rows _ (Nat.le_refl _) (fun j hj _ => look_off h j hj)
  | some l =>
    obtain ⟨j, hj, rfl, rfl⟩ := look_place h
    have h1 := settle_some (f := fun _ => 512) ok.whole ok.rows ok.once hj _ (Nat.le_refl _) hj
    have h2 := (ok.rows _ (List.getElem_mem hj)).2
    have h3 : s.C[j].2.take 512 = s.C[j].2 := List.take_of_length_le (by omega)
    rw [h3] at h1
    show sectB (settleTo _ _ _ _) _ = _
    rw [h1, h2, List.drop_of_length_le, List.append_nil]
    · rfl
    · unfold sectB
      rw [List.length_take]
      omega
/-- The one sector that a crash may tear. -/
def Spec (s : St) (torn : Int) (i : Nat) : Prop := ∃ j, ∃ hj : j < s.C.length, (j : Int) = torn ∧ s.C[j].1 = i
theorem Spec.one {s : St} {torn : Int} {i i' : Nat} (h : Spec s torn i) (h' : Spec s torn i') : i = i' := by
  obtain ⟨j, hj, e1, e2⟩ := h
  obtain ⟨j', hj', e1', e2'⟩ := h'
  obtain rfl : j = j' := by omega
  exact e2.symm.trans e2'
/-- Behind a crash a sector is as it was at the last flush, or as it was written last, or, one alone, the beginning of that and the rest of the former. -/
theorem crash_sect {s : St} (ok : OkSt s) (keep : List Bool) (torn bytes : Int) (i : Nat) (hi : i < secs s) :
    sectB (crashS s keep torn bytes).B i = sectB s.B i ∨ sectB (crashS s keep torn bytes).B i = readB s i ∨
      (Spec s torn i ∧ ∃ k : Nat, bytes = (k : Int) ∧ k ≤ 512 ∧ (sectB (crashS s keep torn bytes).B i).take k = (readB s i).take k ∧ (sectB (crashS s keep torn bytes).B i).drop k = (sectB s.B i).drop k) := by
  have hsl : (sectB s.B i).length = 512 := sectB_len (by have := ok.whole; omega)
  unfold readB
  cases h : lookC s.C i with
  | none => exact .inl (settle_none ok.whole ok.rows _ (Nat.le_refl _) (fun j hj _ => look_off h j hj))
  | some l =>
    obtain ⟨j, hj, rfl, rfl⟩ := look_place h
    have h1 := settle_some (f := keptN keep torn bytes) ok.whole ok.rows ok.once hj _ (Nat.le_refl _) hj
    have h2 := (ok.rows _ (List.getElem_mem hj)).2
    have h3 : sectB (crashS s keep torn bytes).B s.C[j].1 = s.C[j].2.take (keptN keep torn bytes j) ++ (sectB s.B s.C[j].1).drop (s.C[j].2.take (keptN keep torn bytes j)).length := h1
    rw [List.length_take, h2, Nat.min_eq_left (keptN_le keep torn bytes j)] at h3
    rw [h3]
    have hk : keptN keep torn bytes j = 0 ∨ keptN keep torn bytes j = 512 ∨ ((j : Int) = torn ∧ 0 ≤ bytes ∧ bytes ≤ 512 ∧ keptN keep torn bytes j = bytes.toNat) := by
      unfold keptN
      split
      · rename_i hc
        exact .inr (.inr ⟨hc.1, hc.2.1, hc.2.2, rfl⟩)
      · split
        · exact .inr (.inl rfl)
        · exact .inl rfl
    rcases hk with e | e | ⟨e1, e2, e3, e4⟩
    · rw [e]
      exact .inl (by simp)
    · rw [e, List.take_of_length_le (by omega), List.drop_of_length_le (by omega), List.append_nil]
      exact .inr (.inl rfl)
    · refine .inr (.inr ⟨⟨j, hj, e1, rfl⟩, bytes.toNat, by omega, by omega, ?_, ?_⟩)
      · rw [e4, List.take_append, List.length_take, h2, Nat.min_eq_left (by omega), Nat.sub_self, List.take_zero, List.append_nil, List.take_take, Nat.min_self]
        rfl
      · rw [e4, List.drop_append, List.length_take, h2, Nat.min_eq_left (by omega), Nat.sub_self, List.drop_zero, List.drop_of_length_le (by rw [List.length_take]; omega), List.nil_append]
theorem read_write (s : St) (n i : Nat) (l : List UInt8) : readB (writeS s n l) i = if n = i then l else readB s i := by
  unfold readB writeS
  simp only [lookC_put]
  split <;> rfl
end Go.Proofs.YtknagdbhhfelnaaDoor

