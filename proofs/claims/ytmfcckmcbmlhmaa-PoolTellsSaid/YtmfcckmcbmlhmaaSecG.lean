/-
  Package sector: settle by its contract, whatever function tells how many bytes are kept. Conditions: none but that the disk lies there.
-/
import Derived.Test.YtmfcckmcbmlhmaaSecF
namespace Go.Proofs.Ytmfcckmcbmlhmaa
open Go.RowKit Go.Maps
set_option maxRecDepth 100000

def SettleRel (w : World) (ib ic n : Nat) (f : Nat → Nat) (B : List UInt8) (C : Cch) (i : Value) (wr : World) : Prop :=
  ∃ k : Nat, k ≤ C.length ∧ i = .int .i64 (k : Int) ∧ Own wr 0 5 (.slice (some ⟨ib, 0, none⟩) n ic) (settleTo f B C k) ∧ Trn (fun x => x = ib) w wr

theorem rowSliceRun (W : World) (b k : Nat) (hk : k ≤ 512) : (Instr.sliceAt 80 (.pointer (some ⟨b, 0, none⟩)) none (some (.int .i64 (k : Int))) none).run Try.prog W = .ok (.slice (some ⟨b, 0, none⟩) k 512) W := by
  have ha : Try.prog.arrayLen 80 = 512 := by kernel_rfl
  have he : ∀ W, (sizeOf (Try.prog.elem 80)).run Try.prog W = .ok 1 W := fun _ => by kernel_rfl
  rw [run_sliceAt_array_h W 80 ⟨b, 0, none⟩ (by kernel_rfl) .i64 (k : Int) (by omega) (by rw [ha]; omega), he]
  simp [Result.andThen, slicedAt, ha, Addr.add]
theorem rowSliceAll (W : World) (b : Nat) : (Instr.sliceAt 80 (.pointer (some ⟨b, 0, none⟩)) none none none).run Try.prog W = .ok (.slice (some ⟨b, 0, none⟩) 512 512) W := by
  have ha : Try.prog.arrayLen 80 = 512 := by kernel_rfl
  have he : ∀ W, (sizeOf (Try.prog.elem 80)).run Try.prog W = .ok 1 W := fun _ => by kernel_rfl
  rw [run_sliceAt_array_all W 80 ⟨b, 0, none⟩ (by kernel_rfl), he]
  simp [Result.andThen, slicedAt, ha, Addr.add]
theorem mapUnder : Try.prog.underlying 67 = some (.map 3 80) := by kernel_rfl
theorem look_run {w : World} {m N : Nat} {D : DataW Unit} {C : Cch} (h : w.ownsMap Try.prog 3 rowE m N D) (hf : Fits D C) {n : Nat} {l : List UInt8} (hl : lookC C n = some l) (hn : n ≤ 9223372036854775807) :
    (Instr.lookup 67 (.map (some m)) (.int .i64 (n : Int)) false).run Try.prog w = .ok (.agg (byc l).toArray) w := by
  obtain ⟨v, ps, hrun, hv⟩ := h.lookup intKeyed mapUnder (rowZero w) (rowE_mk zero512 zero512_len) (keyOf_int_mk Try.underlying3 (keyL_wf hn))
  have := (hf.hit n l hl).2
  obtain ⟨l', _, rfl, e⟩ := rowE_inv hv
  rw [show (Lit.int .i64 (n : Int)) = keyL n from rfl, show (DataW.lit (Lit.string zero512) : DataW Unit) = zrow from rfl, this] at e
  injection e with e
  injection e with e
  rw [hrun, e]

theorem settled_trn {w wr : World} {S : Nat → Prop} {g ib ic m : Nat} {vo vf : Value} {s : St} {D : DataW Unit} (F : Foot S w g ib m vo vf) (_ha : DskAt w g s ib ic m vo vf D) (ht : Trn (fun x => x = ib) w wr) (v1 v2 : Value) :
    Trn S w (((wr.setCell ⟨g, 1, none⟩ v1).setCell ⟨g, 2, none⟩ v2).alloc (.map #[] 0)) :=
  (((ht.wide (fun _ e => e ▸ F.ib)).setCell _ (fun _ => F.g)).setCell _ (fun _ => F.g)).alloc _
theorem settled {w wr : World} {S : Nat → Prop} {g ib ic m : Nat} {vo vf : Value} {s : St} {D : DataW Unit} {f : Nat → Nat} (ha : DskAt w g s ib ic m vo vf D) (F : Foot S w g ib m vo vf) (ok : OkSt s)
    (ho : Own wr 0 5 (.slice (some ⟨ib, 0, none⟩) s.B.length ic) (settleTo f s.B s.C s.C.length)) (ht : Trn (fun x => x = ib) w wr) :
    Dsk (((wr.setCell ⟨g, 1, none⟩ (.map (some wr.heap.size))).setCell ⟨g, 2, none⟩ (.slice none 0 0)).alloc (.map #[] 0)) (more S w (((wr.setCell ⟨g, 1, none⟩ (.map (some wr.heap.size))).setCell ⟨g, 2, none⟩ (.slice none 0 0)).alloc (.map #[] 0))) g (settleS f s) := by
  have hsz : (((wr.setCell ⟨g, 1, none⟩ (.map (some wr.heap.size))).setCell ⟨g, 2, none⟩ (.slice none 0 0)).alloc (.map #[] 0)).heap.size = wr.heap.size + 1 := by rw [World.size_alloc, setCell_size, setCell_size]
  have hg : g < w.heap.size := F.lt g F.g
  have hgr : g < wr.heap.size := Nat.lt_of_lt_of_le hg ht.size
  have hold : ∀ k, k ≠ g → k < wr.heap.size → (((wr.setCell ⟨g, 1, none⟩ (.map (some wr.heap.size))).setCell ⟨g, 2, none⟩ (.slice none 0 0)).alloc (.map #[] 0)).heap[k]? = wr.heap[k]? := fun k hk hl =>
    (heap_alloc_old _ _ (by rw [setCell_size, setCell_size]; exact hl)).trans ((heap_cell_other hk).trans (heap_cell_other hk))
  have hl : (settleS f s).B.length = s.B.length := settleS_len f ok
  refine ⟨ib, ic, wr.heap.size, .slice none 0 0, vf, .map [], ⟨?_, ?_, ?_, Fits.nil, World.ownsRow_nil _ _ _ _, ?_, fun k _ h => (by cases h)⟩, ⟨.inl F.g, .inl F.ib, .inr ⟨ht.size, by rw [hsz]; omega⟩, fun k hk => (by cases hk), fun k hk => .inl (F.f k hk), ?_⟩, ok.settle f⟩
  · rw [hl]
    have h1 : wr.heap[g]? = some (.cells #[.slice (some ⟨ib, 0, none⟩) s.B.length ic, .map (some m), vo, vf] 70 (0, 0)) := (ht.block g hg (fun e => ha.ib_g e.symm)).trans ha.obj
    rw [heap_alloc_old _ _ (by rw [setCell_size, setCell_size]; exact hgr)]
    simp [World.setCell, Array.getElem?_modify, h1]
  · rw [hl]
    refine ownsRow_same ho (fun k hk => hold k ?_ ?_)
    · simp [Value.ownBlock] at hk
      exact hk ▸ ha.ib_g
    · simp [Value.ownBlock] at hk
      exact hk ▸ Nat.lt_of_lt_of_le (F.lt ib F.ib) ht.size
  · have := World.ownsMap_made ((wr.setCell ⟨g, 1, none⟩ (.map (some wr.heap.size))).setCell ⟨g, 2, none⟩ (.slice none 0 0)) Try.prog 3 rowE
    rw [setCell_size, setCell_size] at this
    exact this
  · refine ha.flt.same (fun k hk => ?_)
    have hkw := F.lt k (F.f k hk)
    rw [hold k (ha.f_g hk) (Nat.lt_of_lt_of_le hkw ht.size)]
    exact ht.block k hkw (ha.f_ib hk)
  · rintro k (hk | hk)
    · rw [hsz]; have := F.lt k hk; have := ht.size; omega
    · exact hk.2

set_option maxRecDepth 100000 in
set_option maxHeartbeats 4000000 in
theorem settle_any (w : World) (S : Nat → Prop) (g : Nat) (s : St) (h : Dsk w S g s) (f : Nat → Nat) (hf512 : ∀ k, f k ≤ 512) (q : Nat) (caps : Array Value) (hq : ∀ args W, (callFunc q args).run Try.prog W = .ok (.enter q args) W)
    (hf : ∀ (k : Nat) (W : World), Trn S w W → Calls Try.prog q (#[.int .i64 (k : Int)] ++ caps) W fun e w' => e = .returned (.int .i64 ((f k : Nat) : Int)) ∧ Below W.heap.size W w') :
    Calls Try.prog 43 #[.pointer (some ⟨g, 0, none⟩), .func (.func q) #[] caps] w fun e w' => e = .returned (.tuple #[]) ∧ Dsk w' (more S w w') g (settleS f s) ∧ Trn S w w' := by
  obtain ⟨ib, ic, m, vo, vf, D, ha, F, ok⟩ := h
  obtain ⟨c0, c1, c2, c3, _, _, _⟩ := obj_cells ha.obj
  have HA := Lib.hid ha
  have HF := Lib.hid F
  have HO := Lib.hid ok
  have HK := Lib.hid hf
  have HQ := Lib.hid hq
  have H5 := Lib.hid hf512
  have hcnt := ok.cnt
  have Z := rowZero
  have hz := zero512_len
  generalize zero512 = z0 at *
  obtain ⟨A, no, co, rfl, NO, hnc, hcm⟩ := (ints_rowz ha.ord).form
  have NO' : Hid (no = s.C.length) := by have := NO.out; rw [inz_len, keysC_len] at this; exact this
  clear ha F ok hf hf512 NO hq
  go_enter Try.func43, Try.ntmps43
  go_wp2_with fail
  go_loopw [12] (fun i wr => SettleRel w ib ic s.B.length f s.B s.C i wr) (fun i _ => no - (intOf i).toNat)
  case atStart => exact ⟨0, by omega, rfl, HA.out.img, Trn.refl _ _⟩
  case round =>
    obtain ⟨k, hk, rfl, hown, htrn⟩ := hrel
    have HW := Lib.hid hown
    have HT := Lib.hid htrn
    have hobj : DObj wr g ib ic m s.B.length (.slice A no co) vf := by
      obtain ⟨A', c', e, h1, h2, _⟩ := Own.byt HA.out.img
      injection e with _ _ e3
      subst e3
      unfold maxLen at h2
      exact ⟨(htrn.block g (HF.out.lt g HF.out.g) (fun e => HA.out.ib_g e.symm)).trans HA.out.obj, h1, by omega⟩
    obtain ⟨d0, d1, d2, d3, _, e2, e3⟩ := obj_cells hobj.1
    have HJ := Lib.hid hobj
    clear hown htrn hobj
    by_cases hlt : k < s.C.length
    · have hkn : (k : Int) < (no : Int) := by have := NO'.out; omega
      have hord := ownsRow_same (w' := wr) HA.out.ord (fun i hi => HT.out.block i (HF.out.lt i (HF.out.o i hi)) (HA.out.o_ib hi))
      obtain ⟨b, off, rfl, hb, hc⟩ := (ints_rowz hord).at (k := k) (by rw [inz_len, keysC_len]; exact hlt)
      have hck := hc k (by rw [inz_len, keysC_len]; exact hlt)
      have hmp := ownsMap_same (w' := wr) HA.out.mp (HT.out.block m (HF.out.lt m HF.out.m) HA.out.m_ib)
      have hrow := HO.out.rows _ (List.getElem_mem hlt)
      have hlook := lookC_at HO.out.once k hlt
      have hst : settleTo f s.B s.C (k + 1) = splice (settleTo f s.B s.C k) (512 * s.C[k].1) (s.C[k].2.take (f k)) := by
        show splice _ _ _ = _
        rw [getD_at s.C k hlt]
      have hck' : wr.cell? ⟨b, off + k, none⟩ = some (.int .i64 ((s.C[k].1 : Nat) : Int)) := by
        rw [hck]; simp [inz, keysC]
      clear hck hc hb hord
      have hlen := settleTo_len f s.B s.C _ HO.out.whole HO.out.rows k hk
      have hfk := H5.out k
      have CK := Lib.hid (HK.out k)
      have hwh := HO.out.whole
      have hfew := HO.out.few
      generalize s.C[k].1 = x at *
      generalize s.C[k].2 = l at *
      generalize f k = fk at *
      generalize hBk : settleTo f s.B s.C k = Bk at *
      have HST := Lib.hid hst
      have LR := look_run hmp HA.out.fits hlook (by omega)
      obtain ⟨hx1, hl1⟩ := hrow
      have hxe : 512 * (x + 1) ≤ s.B.length := by omega
      have HXE := Lib.hid hxe
      have HL1 := Lib.hid hl1
      have HZ := Lib.hid hz
      have RS : ∀ W, (Instr.sliceAt 80 (.pointer (some ⟨wr.heap.size, 0, none⟩)) none (some (.int .i64 (fk : Int))) none).run Try.prog W = .ok (.slice (some ⟨wr.heap.size, 0, none⟩) fk 512) W := fun W => rowSliceRun W _ fk hfk
      have hmx : s.B.length ≤ 16777216 := by omega
      generalize s.B.length = nb at *
      clear hst hmp hlook hBk hwh hfew hz hl1
      go_wp2_with (refine wpList_storeRow z0 l HZ.out HL1.out rfl _ _ rfl rfl rfl ?_; intro w1 hr1 hb1 hs1)
      have HR1 := Lib.hid hr1
      have HB1 := Lib.hid hb1
      clear hr1 hb1
      have HJ1 : DObj w1 g ib ic m nb (.slice (some ⟨b, off, none⟩) no co) vf := ⟨(HB1.out.block g (Array.getElem?_eq_some_iff.1 HJ.out.1).1).trans HJ.out.1, HJ.out.2⟩
      have HJ1 := Lib.hid HJ1
      refine (below_is w1 g ib ic m nb x _ vf HJ1.out HXE.out).mono ?_
      rintro e w2 ⟨rfl, rfl⟩
      go_wp2_with fail
      have T1 : Trn S w w1 := (HT.out.wide (fun i e => e ▸ HF.out.ib)).trans (Trn.of_below HB1.out (S := fun _ => False)) (fun _ _ h => h.elim)
      rw [HQ.out, Oper.upon_enter]
      refine (CK.out w1 T1).mono ?_
      rintro e w2 ⟨rfl, hb2⟩
      have HB2 := Lib.hid (HB1.out.trans (hb2.mono HB1.out.size))
      have hr2 : ARow w2 wr.heap.size l := (hb2.block _ hs1).trans HR1.out
      have HY := Lib.hid ((hr2.byt HL1.out).upto (k := fk) hfk)
      have HW2 := Lib.hid (Own.keep HW.out HB2.out)
      clear hb2 hr2 T1
      go_wp2_with (refine wpList_copyB rfl (.tmp 25) (.tmp 29) rfl ib (512 * x) nb ic 512 (ic - 512 * x) Bk (l.take fk) _ rfl rfl HW2.out HY.out (by rw [List.length_take]; omega) (by omega) ?_; intro w3 o3 t3 s3)
      go_roundw
      case rel => exact ⟨k + 1, by omega, by go_num, by rw [HST.out]; exact o3, (HT.out.trans (Trn.of_below HB2.out (S := fun _ => False)) (fun _ _ h => h.elim)).trans t3 (fun _ _ h => h)⟩
      case measure => simp [intOf]; omega
    · have e : k = s.C.length := by omega
      have hkn : ¬ (k : Int) < (no : Int) := by have := NO'.out; omega
      have hmm := @run_makeMap Try.prog
      have hglt : g < wr.heap.size := (Array.getElem?_eq_some_iff.1 HJ.out.1).1
      obtain ⟨_, a1, a2, _, b1, b2, _⟩ := obj_cells (w := wr.alloc (.map #[] 0)) ((heap_alloc_old wr _ hglt).trans HJ.out.1)
      go_wp2_with fail
      go_end0
      subst e
      exact ⟨rfl, settled HA.out HF.out HO.out HW.out HT.out, settled_trn HF.out HA.out HT.out _ _⟩
end Go.Proofs.Ytmfcckmcbmlhmaa
