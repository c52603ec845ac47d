/-
  Package sector: Read, Write by their contracts. Conditions: none but that the disk lies there, and what is handed in apart from it.
-/
import Derived.Test.YtmfcckmcbmlhmaaSecI
import Derived.Test.YtmfcckmcbmlhmaaOrdT
namespace Go.Proofs.Ytmfcckmcbmlhmaa
open Go.RowKit Go.Maps
set_option maxRecDepth 100000

theorem look_ok {w : World} {m N : Nat} {D : DataW Unit} {C : Cch} (h : w.ownsMap Try.prog 3 rowE m N D) (hf : Fits D C) {n : Nat} (hn : n ≤ 9223372036854775807) :
    ∃ l', l'.length = 512 ∧ (Instr.lookup 67 (.map (some m)) (.int .i64 (n : Int)) true).run Try.prog w = .ok (.tuple #[.agg (byc l').toArray, .bool (lookC C n).isSome]) w ∧ ∀ l, lookC C n = some l → l' = l := by
  obtain ⟨v, ps, hrun, hv⟩ := h.look_ok intKeyed mapUnder (rowZero w) (rowE_mk zero512 zero512_len) (keyOf_int_mk Try.underlying3 (keyL_wf hn))
  obtain ⟨l', hl', rfl, e⟩ := rowE_inv hv
  refine ⟨l', hl', ?_, fun l hl => ?_⟩
  · rw [hrun]
    have : Maps.has D (Lit.int .i64 (n : Int)) = (lookC C n).isSome := by
      cases hc : lookC C n with
      | some l => exact (hf.hit n l hc).1
      | none => exact hf.miss n hc
    rw [this]
  · have := (hf.hit n l hl).2
    rw [show (Lit.int .i64 (n : Int)) = keyL n from rfl, show (DataW.lit (Lit.string zero512) : DataW Unit) = zrow from rfl, this] at e
    injection e with e
    injection e with e
    exact e.symm

/-- What Read answers. -/
def readR (s : St) (x : Int) : List UInt8 × Nat × St := if 0 ≤ x ∧ x < ((secs s : Nat) : Int) then (if blows s.F then ([], 8, tick s) else (readB s x.toNat, 0, tick s)) else ([], 2, s)
def Red (w : World) (S : Nat → Prop) (g : Nat) (r : List UInt8 × Nat × St) (e : Ending) (w' : World) : Prop :=
  ∃ v, e = .returned (.tuple #[v, .int .i64 ((r.2.1 : Nat) : Int)]) ∧ Own w' w.heap.size 5 v r.1 ∧ Dsk w' S g r.2.2 ∧ Trn S w w'
set_option maxRecDepth 100000 in
set_option maxHeartbeats 4000000 in
theorem read_is (w : World) (S : Nat → Prop) (g : Nat) (s : St) (x : Int) (h : Dsk w S g s) :
    Calls Try.prog 48 #[.pointer (some ⟨g, 0, none⟩), .int .i64 x] w (Red w S g (readR s x)) := by
  obtain ⟨ib, ic, m, vo, vf, hd, _, _⟩ := h.parts
  have HM := Lib.hid (made_is w g ib ic m _ vo vf hd h.ok.pos)
  have HH := Lib.hid (has_is w g ib ic m _ vo vf x hd h.ok.pos)
  rw [show s.B.length / 512 = secs s from rfl] at HH
  have HF := Lib.hid (fails_is w S g s h)
  have H := Lib.hid h
  have HL := Lib.hid h.lt
  have hok := h.ok
  clear h hd
  by_cases hx : 0 ≤ x ∧ x < ((secs s : Nat) : Int)
  · rw [show decide (0 ≤ x ∧ x < ((secs s : Nat) : Int)) = true by simp [hx]] at HH
    cases hbl : blows s.F
    · have HR : Hid (readR s x = (readB s x.toNat, 0, tick s)) := by rw [Hid]; unfold readR; rw [if_pos hx, hbl]; rfl
      obtain ⟨n, rfl⟩ := Int.eq_ofNat_of_zero_le hx.1
      unfold Failed at HF
      rw [hbl] at HF
      have hn : n < secs s := by omega
      have hn2 : 512 * (n + 1) ≤ s.B.length := by have := hok.whole; omega
      have hsh := hok.short
      have hns : n ≤ 9223372036854775807 := by have := hok.few; omega
      have HRB : Hid (readB s (Int.toNat (n : Int)) = readB (tick s) n) := rfl
      have Z := rowZero
      have HZ := Lib.hid zero512_len
      clear hx hbl
      go_enter Try.func48, Try.ntmps48
      go_wp2_with fail
      refine HM.out.mono ?_
      rintro e w1 ⟨rfl, rfl⟩
      go_wp2_with fail
      refine HH.out.mono ?_
      rintro e w1 ⟨rfl, rfl⟩
      go_wp2_with fail
      refine HF.out.mono ?_
      rintro e w1 ⟨rfl, hd1, ht1, hs1⟩
      have HD1 := Lib.hid hd1
      have HT1 := Lib.hid ht1
      have HS1 := Lib.hid hs1
      obtain ⟨ib1, ic1, m1, vo1, vf1, D1, ha1, F1, ok1⟩ := hd1
      obtain ⟨c0, c1, c2, c3, _, _, _⟩ := obj_cells ha1.obj
      obtain ⟨l', hl', LK, hsome⟩ := look_ok ha1.mp ha1.fits (n := n) hns
      obtain ⟨A', c', e, q1, q2, _⟩ := Own.byt ha1.img
      have e3 : c' = ic1 := by injection e with _ _ e3; exact e3.symm
      subst e3
      unfold maxLen at q2
      have HJ : Hid (DObj w1 g ib1 c' m1 (tick s).B.length vo1 vf1) := ⟨ha1.obj, q1, by omega⟩
      have HI := Lib.hid (Own.byt ha1.img)
      have HL1 := Lib.hid hl'
      have hCt : (tick s).C = s.C := rfl
      rw [hCt] at LK hsome
      clear ht1 hs1 ha1 F1 ok1 e q1 q2 hl'
      generalize zero512 = z0 at *
      have RA : ∀ W, (Instr.sliceAt 80 (.pointer (some ⟨w1.heap.size, 0, none⟩)) none none none).run Try.prog W = .ok (.slice (some ⟨w1.heap.size, 0, none⟩) 512 512) W := fun W => rowSliceAll W _
      cases hc : lookC s.C n with
      | some l =>
        rw [hc] at LK
        have hb : Hid (readB (tick s) n = l') := by rw [Hid]; unfold readB; rw [hCt, hc, hsome l hc]; rfl
        clear hsome hc
        rw [Option.isSome_some] at LK
        go_wp2_with (refine wpList_storeRow z0 l' HZ.out HL1.out rfl _ _ rfl rfl rfl ?_; intro w2 hr2 hb2 hs2)
        have HB2 := Lib.hid hb2
        refine (cloneb_any w2 _ l' (hr2.byt HL1.out) (by have := HL1.out; omega)).mono ?_
        rintro e w3 ⟨v3, rfl, hown3, hb3⟩
        have HO3 := Lib.hid hown3
        have HB3 := Lib.hid (HB2.out.trans (hb3.mono HB2.out.size))
        clear hown3 hb3 hr2 hb2
        go_wp2_with fail
        go_ret2
        rw [HR.out, HRB.out, hb.out]
        exact ⟨_, rfl, HO3.out.lower (by have := HB2.out.size; have := HS1.out; omega), HD1.out.below HB3.out, HT1.out.trans (Trn.of_below HB3.out (S := fun _ => False)) (fun _ _ h => h.elim)⟩
      | none =>
        rw [hc] at LK
        have hb : Hid (readB (tick s) n = sectB s.B n) := by rw [Hid]; unfold readB; rw [hCt, hc]; rfl
        clear hsome hc
        rw [Option.isSome_none] at LK
        go_wp2_with (refine wpList_storeRow z0 l' HZ.out HL1.out rfl _ _ rfl rfl rfl ?_; intro w2 hr2 hb2 hs2)
        have HB2 := Lib.hid hb2
        have hg1 : g < w1.heap.size := (Array.getElem?_eq_some_iff.1 HJ.out.1).1
        refine (below_is w2 g ib1 c' m1 _ n vo1 vf1 ⟨(HB2.out.block g hg1).trans HJ.out.1, HJ.out.2⟩ hn2).mono ?_
        rintro e w3 ⟨rfl, rfl⟩
        have hby : Byt w2 (.slice (some ⟨ib1, 512 * n, none⟩) 512 (c' - 512 * n)) (sectB s.B n) := by
          have h1 := (HI.out.below HB2.out).cut (k := 512 * n) (by show 512 * n ≤ s.B.length; omega)
          rw [if_neg (by have := HJ.out.2.1; have : (tick s).B.length = s.B.length := rfl; omega)] at h1
          have h2 := h1.upto (k := 512) (by show 512 ≤ s.B.length - 512 * n; omega)
          simp only [Option.map_some, plainAdd, Nat.zero_add] at h2
          exact h2
        have HY := Lib.hid hby
        clear hby hr2 hb2
        go_wp2_with fail
        refine (cloneb_any w2 _ _ HY.out (by rw [sectB_len hn2]; omega)).mono ?_
        rintro e w3 ⟨v3, rfl, hown3, hb3⟩
        have HO3 := Lib.hid hown3
        have HB3 := Lib.hid (HB2.out.trans (hb3.mono HB2.out.size))
        clear hown3 hb3
        go_wp2_with fail
        go_ret2
        rw [HR.out, HRB.out, hb.out]
        exact ⟨_, rfl, HO3.out.lower (by have := HB2.out.size; have := HS1.out; omega), HD1.out.below HB3.out, HT1.out.trans (Trn.of_below HB3.out (S := fun _ => False)) (fun _ _ h => h.elim)⟩
    · have HR : Hid (readR s x = ([], 8, tick s)) := by rw [Hid]; unfold readR; rw [if_pos hx, hbl]; rfl
      unfold Failed at HF
      rw [hbl] at HF
      clear hx hbl
      go_enter Try.func48, Try.ntmps48
      go_wp2_with fail
      refine HM.out.mono ?_
      rintro e w1 ⟨rfl, rfl⟩
      go_wp2_with fail
      refine HH.out.mono ?_
      rintro e w1 ⟨rfl, rfl⟩
      go_wp2_with fail
      refine HF.out.mono ?_
      rintro e w1 ⟨rfl, hd1, ht1, hs1⟩
      have HD1 := Lib.hid hd1
      have HT1 := Lib.hid ht1
      clear hd1 ht1 hs1
      go_wp2_with fail
      go_ret2
      rw [HR.out]
      exact ⟨_, rfl, World.ownsRow_nil _ _ _ 1, HD1.out, HT1.out⟩
  · have HR : Hid (readR s x = ([], 2, s)) := by rw [Hid]; unfold readR; rw [if_neg hx]
    rw [show decide (0 ≤ x ∧ x < ((secs s : Nat) : Int)) = false by simp [hx]] at HH
    clear hx
    go_enter Try.func48, Try.ntmps48
    go_wp2_with fail
    refine HM.out.mono ?_
    rintro e w1 ⟨rfl, rfl⟩
    go_wp2_with fail
    refine HH.out.mono ?_
    rintro e w1 ⟨rfl, rfl⟩
    go_wp2_with fail
    go_ret2
    rw [HR.out]
    exact ⟨_, rfl, World.ownsRow_nil _ _ _ 1, H.out, Trn.refl _ _⟩
theorem read_nil (w : World) (x : Int) : Calls Try.prog 48 #[.pointer none, .int .i64 x] w fun e w' => e = .returned (.tuple #[.slice none 0 0, .int .i64 1]) ∧ w = w' := by
  go_enter Try.func48, Try.ntmps48
  go_wp2_with fail
  refine (made_nil _).mono ?_
  rintro e w1 ⟨rfl, rfl⟩
  go_wp2_with fail
  go_ret2
  exact ⟨rfl, rfl⟩
end Go.Proofs.Ytmfcckmcbmlhmaa
