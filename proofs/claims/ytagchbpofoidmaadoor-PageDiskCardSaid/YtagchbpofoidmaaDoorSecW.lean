/-
  The document's disk (tallymanref04): New, find, Read, Cached, Image by their contracts. Conditions: none but that the disk lies there.
-/
import Derived.Test.YtagchbpofoidmaaDoorSecV
namespace Go.Proofs.YtagchbpofoidmaaDoor
open Go.RowKit Go.Maps
set_option maxRecDepth 100000

def Refed (w : World) (s : St) (e : Ending) (w' : World) : Prop :=
  ∃ g, e = .returned (.tuple #[.pointer (some ⟨g, 0, none⟩), .int .i64 0]) ∧ Ref w' (fun k => w.heap.size ≤ k ∧ k < w'.heap.size) g s ∧ Below w.heap.size w w'
theorem own_new {w1 : World} {B n : Nat} (h : w1.ownsRow B 5 1 (.slice (some ⟨B, 0, none⟩) (512 * n) (512 * n)) (512 * n) (madeCells (Value.cells (.int .u8 0)) (512 * n * 1)).toList) : Own w1 0 5 (.slice (some ⟨B, 0, none⟩) (newS n).B.length (512 * n)) (newS n).B := by
  have e1 : (madeCells (Value.cells (.int .u8 0)) (512 * n * 1)).toList = byc (List.replicate (512 * n) 0) := by
    rw [show (Value.cells (.int .u8 0)) = #[.int .u8 0] from rfl, toList_madeCells_one, Nat.mul_one]
    simp [byc]
  rw [e1] at h
  have h2 : Own w1 B 5 (.slice (some ⟨B, 0, none⟩) (512 * n) (512 * n)) (List.replicate (512 * n) 0) := by
    unfold Own
    rw [List.length_replicate]
    exact h
  have h3 := h2.lower (Nat.zero_le _)
  show Own w1 0 _ (.slice _ (List.replicate (512 * n) (0 : UInt8)).length _) (List.replicate (512 * n) 0)
  rw [List.length_replicate]
  exact h3
set_option maxHeartbeats 1000000 in
theorem rnew_any (w : World) (n : Nat) (h0 : 0 < n) (h1 : n ≤ 32768) : Calls Tryd.prog 25 #[.int .i64 (n : Int)] w (Refed w (newS n)) := by
  obtain ⟨i0, hi0, hz0, hz1, hz2⟩ := info_parts uinfo
  have h2 : ¬ (n : Int) < 1 := by omega
  have h3 : ¬ (32768 : Int) < (n : Int) := by omega
  go_enter Tryd.func25, Tryd.ntmps25
  go_wp2_with (at_make; refine wpList_make_full _ rfl _ _ 22 rfl w.heap.size 5 i0 _ 1 Tryd.underlying22 hi0 hz0 hz1 _ _ _ _ (512 * n) rfl rfl (by omega) (by omega) (by rw [hz2]; omega) (by simp only [maxLen]; omega) (Nat.le_refl _) ?_; intro w1 hown1 hg1; have HW := Lib.hid (own_new hown1); have HL := Lib.hid (World.ownsRow.lt hown1 w.heap.size rfl).2; have HG := Lib.hid (below_none hg1); clear hown1 hg1)
  go_ret2
  have hlen : (newS n).B.length = 512 * n := List.length_replicate
  refine ⟨w1.heap.size, rfl, ⟨w.heap.size, 512 * n, .slice none 0 0, .slice none 0 0, [], ⟨?_, World.ownsRow.alloc HW.out _, World.ownsRow_nil _ _ _ _, World.ownsRow_nil _ _ _ _, fun j hj => absurd hj (by show ¬ j < 0; omega)⟩,
    ⟨⟨HG.out.size, by simp⟩, ⟨Nat.le_refl _, by have := HL.out; simp; omega⟩, fun k hk => (by cases hk), fun k hk => (by cases hk), fun v hv => (by cases hv), fun k hk => hk.2⟩, OkSt.new h0 h1⟩, HG.out.alloc HG.out.size _⟩
  rw [hlen]
  exact heap_alloc_new w1 _
theorem rnew_bad (w : World) (x : Int) (h : x < 1 ∨ 32768 < x) : Calls Tryd.prog 25 #[.int .i64 x] w fun e w' => e = .returned (.tuple #[.pointer none, .int .i64 2]) ∧ w = w' := by
  by_cases h1 : x < 1
  · go_enter Tryd.func25, Tryd.ntmps25
    go_wp2_with fail
    go_ret2
    exact ⟨rfl, rfl⟩
  · have h2 : (32768 : Int) < x := by omega
    go_enter Tryd.func25, Tryd.ntmps25
    go_wp2_with fail
    go_ret2
    exact ⟨rfl, rfl⟩
/-- Where a sector stands in the cache. -/
def Found (C : Cch) (n : Nat) (w : World) (e : Ending) (w' : World) : Prop :=
  w = w' ∧ ((∃ j, ∃ hj : j < C.length, C[j].1 = n ∧ e = .returned (.int .i64 (j : Int))) ∨ ((∀ j (hj : j < C.length), C[j].1 ≠ n) ∧ e = .returned (.int .i64 (-1))))
def FindRel (C : Cch) (n : Nat) (i : Value) : Prop := ∃ k : Nat, k ≤ C.length ∧ i = .int .i64 (k : Int) ∧ ∀ j (hj : j < C.length), j < k → C[j].1 ≠ n
theorem found_next {C : Cch} {n k : Nat} {hk : k < C.length} (h : ∀ j (hj : j < C.length), j < k → C[j].1 ≠ n) (he : ¬ C[k].1 = n) : ∀ j (hj : j < C.length), j < k + 1 → C[j].1 ≠ n := by
  intro j hj hjk
  by_cases h' : j < k
  · exact h j hj h'
  · obtain rfl : j = k := by omega
    exact he
set_option maxHeartbeats 1000000 in
theorem rfind_is (w : World) (S : Nat → Prop) (g : Nat) (s : St) (n : Nat) (h : Ref w S g s) :
    Calls Tryd.prog 77 #[.pointer (some ⟨g, 0, none⟩), .int .i64 (n : Int)] w (Found s.C n w) := by
  obtain ⟨ib, ic, vn, vc, vs, ha, F, ok⟩ := h
  obtain ⟨_, c1, _, _, _, _, _⟩ := robj_cells ha.obj
  have HR := Lib.hid (ints_rowz ha.ord)
  have hcn := ok.cnt
  obtain ⟨A, m, c, rfl, N, hnc, hcm⟩ := (ints_rowz ha.ord).form
  have N' : Hid (m = s.C.length) := by have := N.out; rw [inz_len, keysC_len] at this; exact this
  clear ha F ok N
  go_enter Tryd.func77, Tryd.ntmps77
  go_wp2_with fail
  go_loop [5] (fun i => FindRel s.C n i) (fun i => m - (intOf i).toNat)
  case atStart => exact ⟨0, by omega, rfl, fun j _ h => by omega⟩
  case round =>
    obtain ⟨k, hk, rfl, hall⟩ := hrel
    by_cases hlt : k < s.C.length
    · have hkm : (k : Int) < (m : Int) := by have := N'.out; omega
      obtain ⟨b, off, rfl, hb, hc⟩ := HR.out.at (k := k) (by rw [inz_len, keysC_len]; exact hlt)
      have hck := hc k (by rw [inz_len, keysC_len]; exact hlt)
      have hck' : w.cell? ⟨b, off + k, none⟩ = some (.int .i64 ((s.C[k].1 : Nat) : Int)) := by rw [hck]; simp [inz, keysC]
      have HALL := Lib.hid hall
      clear hck hc hb hall
      by_cases he : s.C[k].1 = n
      · have hq : (((s.C[k].1 : Nat) : Int) == (n : Int)) = true := by rw [he]; simp
        have HE : Hid (∃ hj : k < s.C.length, s.C[k].1 = n) := ⟨hlt, he⟩
        clear he
        generalize s.C[k].1 = y at hck' hq
        go_wp2_with fail
        go_ret
        obtain ⟨h1, h2⟩ := HE.out
        exact ⟨rfl, .inl ⟨k, h1, h2, rfl⟩⟩
      · have hq := ne_int he
        have HE := Lib.hid (found_next HALL.out he)
        clear he
        generalize s.C[k].1 = y at hck' hq
        go_wp2_with fail
        go_round
        case rel => exact ⟨k + 1, by omega, by go_num, HE.out⟩
        case measure => simp [intOf]; omega
    · have hkm : ¬ (k : Int) < (m : Int) := by have := N'.out; omega
      go_wp2_with fail
      go_ret
      exact ⟨rfl, .inr ⟨fun j hj => hall j hj (by omega), rfl⟩⟩

def RRed (w : World) (S : Nat → Prop) (g : Nat) (r : List UInt8 × Nat × St) (e : Ending) (w' : World) : Prop :=
  ∃ v, e = .returned (.tuple #[v, .int .i64 ((r.2.1 : Nat) : Int)]) ∧ Own w' w.heap.size 5 v r.1 ∧ Ref w' S g r.2.2 ∧ Trn S w w'
theorem Ref.cells {w : World} {S : Nat → Prop} {g : Nat} {s : St} (h : Ref w S g s) : ∃ ib ic A1 n1 c1 A2 n2 c2, w.cell? ⟨g, 0, none⟩ = some (.slice (some ⟨ib, 0, none⟩) s.B.length ic) ∧ w.cell? ⟨g, 1, none⟩ = some (.slice A1 n1 c1) ∧ w.cell? ⟨g, 2, none⟩ = some (.slice A2 n2 c2) ∧
    Byt w (.slice (some ⟨ib, 0, none⟩) s.B.length ic) s.B ∧ w.ownsRow 0 3 1 (.slice A1 n1 c1) s.C.length (inz (keysC s.C)) ∧ (∃ vs, Rowz w (.slice A2 n2 c2) vs ∧ vs.length = s.C.length ∧ ∀ j (hj : j < s.C.length) (hv : j < vs.length), Byt w vs[j] s.C[j].2) ∧
    (n1 = s.C.length ∧ n1 ≤ c1 ∧ c1 ≤ 9223372036854775807) ∧ (n2 = s.C.length ∧ n2 ≤ c2 ∧ c2 ≤ 9223372036854775807) ∧ s.B.length ≤ ic ∧ ic ≤ 9223372036854775807 := by
  obtain ⟨ib, ic, vn, vc, vs, h, F, ok⟩ := h
  obtain ⟨c0, c1, c2, _, _, _, _⟩ := robj_cells h.obj
  obtain ⟨A1, n1, k1, rfl, N1, h1, h1'⟩ := (ints_rowz h.ord).form
  have hr : Rowz w vc vs := by
    have hl : vs.length = s.C.length := h.len
    have := h.rows
    rw [← hl] at this
    exact OwnR.rowz this
  obtain ⟨A2, n2, k2, rfl, N2, h2, h2'⟩ := hr.form
  obtain ⟨_, c', e, h3, h4, _⟩ := Own.byt h.img
  have e3 : c' = ic := by injection e with _ _ e3; exact e3.symm
  subst e3
  unfold maxLen at h4
  have hn1 : n1 = s.C.length := by have := N1.out; rw [inz_len, keysC_len] at this; exact this
  have hn2 : n2 = s.C.length := N2.out.trans h.len
  exact ⟨ib, c', A1, n1, k1, A2, n2, k2, c0, c1, c2, Own.byt h.img, h.ord, ⟨vs, hr, h.len, fun j hj hv => Own.byt (h.each j hj hv).1⟩, ⟨hn1, h1, h1'⟩, ⟨hn2, h2, h2'⟩, h3, by omega⟩
set_option maxHeartbeats 1000000 in
theorem rimage_is (w : World) (S : Nat → Prop) (g : Nat) (s : St) (h : Ref w S g s) :
    Calls Tryd.prog 35 #[.pointer (some ⟨g, 0, none⟩)] w (Made w s.B) := by
  obtain ⟨i0, hi0, hz0, hz1, hz2⟩ := info_parts uinfo
  have hsh := h.ok.short
  obtain ⟨ib, ic, A1, n1, c1, A2, n2, c2, d0, d1, d2, hb, _, _, _, _, _, _⟩ := (h.below (below_new w (.cells #[] 5))).cells
  have HX := Lib.hid hb
  have HE := Lib.hid (Own.empty w)
  have HSH := Lib.hid hsh
  clear h hb hsh
  go_enter Tryd.func35, Tryd.ntmps35
  go_wp2_with (at_builtin; refine wpList_app _ rfl (.tmp 3) (.tmp 7) _ rfl w.heap.size 5 i0 _ Tryd.underlying22 hi0 hz0 hz1 hz2 rfl _ [] rfl HE.out _ s.B rfl HX.out (by have := HSH.out; simp; omega) (by simp) ?_; intro v1 w1 hown1 hg1 hat1; have hb1 := below_own (below_new w _) (by simp) HE.out hg1)
  go_ret
  exact made_mk (by simpa using hown1) hb1
set_option maxHeartbeats 1000000 in
theorem rcached_is (w : World) (S : Nat → Prop) (g : Nat) (s : St) (h : Ref w S g s) :
    Calls Tryd.prog 33 #[.pointer (some ⟨g, 0, none⟩)] w (MadeI w (keysC s.C)) := by
  obtain ⟨i0, hi0, hz0, hz1, hz2⟩ := info_parts iinfo
  have hcn := h.ok.cnt
  obtain ⟨ib, ic, A1, n1, c1, A2, n2, c2, d0, d1, d2, _, ho, _, ⟨hq1, _, _⟩, ⟨hq2, _, _⟩, _, _⟩ := (h.below (below_new w (.cells #[] 3))).cells
  have HX := Lib.hid (ints_rowz ho)
  have HE := Lib.hid (World.ownsRow_lit (base := w.heap.size) (e := 3) (size := 1) w #[] 0 (Nat.le_refl _) (by simp [maxLen]) rfl)
  have HCN : Hid ((inz (keysC s.C)).length ≤ 32768) := by rw [Hid, inz_len, keysC_len]; exact hcn
  clear h ho hcn hq1 hq2
  go_enter Tryd.func33, Tryd.ntmps33
  go_wp2_with (at_builtin; refine wpList_appZ _ rfl (.tmp 3) (.tmp 7) _ rfl w.heap.size 3 i0 _ 8 Tryd.underlying44 hi0 hz0 hz1 hz2 rfl _ 0 [] rfl HE.out _ (inz (keysC s.C)) rfl HX.out (inz_one _) (by have := HCN.out; omega) (by simp) ?_; intro v1 w1 hown1 hg1 hat1; have hb1 := below_own (below_new w _) (by simp) HE.out hg1)
  go_ret
  refine ⟨_, rfl, ?_, hb1⟩
  rw [inz_len] at hown1
  simpa using hown1
set_option maxRecDepth 100000 in
set_option maxHeartbeats 1000000 in
theorem rread_is (w : World) (S : Nat → Prop) (g : Nat) (s : St) (x : Int) (h : Ref w S g s) :
    Calls Tryd.prog 59 #[.pointer (some ⟨g, 0, none⟩), .int .i64 x] w (RRed w S g (readR s x)) := by
  obtain ⟨i0, hi0, hz0, hz1, hz2⟩ := info_parts uinfo
  have H := Lib.hid h
  have HS := Lib.hid (rsectors_is w S g s h)
  have HF := Lib.hid (rfails_is w S g s h)
  have hok := h.ok
  clear h
  by_cases h0 : x < 0
  · have HR : Hid (readR s x = ([], 2, s)) := by rw [Hid]; unfold readR; rw [if_neg (by omega)]
    go_enter Tryd.func59, Tryd.ntmps59
    go_wp2_with fail
    go_ret2
    rw [HR.out]
    exact ⟨_, rfl, World.ownsRow_nil _ _ _ 1, H.out, Trn.refl _ _⟩
  · obtain ⟨n, rfl⟩ := Int.eq_ofNat_of_zero_le (show 0 ≤ x by omega)
    by_cases h1 : n < secs s
    · have h1' : ¬ ((secs s : Nat) : Int) ≤ (n : Int) := by omega
      unfold RFailed at HF
      cases hbl : blows s.F
      · have HR : Hid (readR s (n : Int) = (readB s n, 0, tick s)) := by rw [Hid]; unfold readR; rw [if_pos ⟨by omega, by omega⟩, hbl]; rfl
        rw [hbl] at HF
        have hn2 : 512 * (n + 1) ≤ s.B.length := by have := hok.whole; omega
        have hsh := hok.short
        clear hbl
        generalize secs s = sec at *
        go_enter Tryd.func59, Tryd.ntmps59
        go_wp2_with fail
        refine HS.out.mono ?_
        rintro e w1 ⟨rfl, rfl⟩
        go_wp2_with fail
        refine HF.out.mono ?_
        rintro e w1 ⟨rfl, hd1, ht1, hs1⟩
        have HD1 := Lib.hid hd1
        have HT1 := Lib.hid ht1
        have HS1 := Lib.hid hs1
        have HE := Lib.hid (Own.empty w1)
        have RF := Lib.hid (rfind_is w1 S g (tick s) n hd1)
        obtain ⟨ib, ic, A1, n1, c1, A2, n2, c2, d0, d1, d2, hb, _, ⟨vs, hvs, hvl, hve⟩, _, ⟨hn2c, hn2', hn2''⟩, hic, hic'⟩ := (hd1.below (below_new w1 (.cells #[] 5))).cells
        have hokt := hd1.ok
        clear hd1 ht1 hs1
        go_wp2_with fail
        refine RF.out.mono ?_
        rintro e w2 ⟨rfl, hfo⟩
        rcases hfo with ⟨j, hj, hjn, rfl⟩ | ⟨hno, rfl⟩
        · have hj0 : (0 : Int) ≤ (j : Int) := by omega
          obtain ⟨b, off, rfl, hlt, hc⟩ := hvs.at (k := j) (by omega)
          have hcj := hc j (by omega)
          have HV := Lib.hid (hve j hj (by omega))
          have hjn2 : (j : Int) < (n2 : Int) := by rw [hn2c]; omega
          have HB : Hid (readB (tick s) n = (tick s).C[j].2) := by
            rw [Hid]
            unfold readB
            rw [← hjn, lookC_at hokt.once j hj]; rfl
          have HL : Hid ((tick s).C[j].2.length = 512) := (hokt.rows _ (List.getElem_mem hj)).2
          clear hc hve hvs hlt
          generalize (tick s).C[j].2 = l at *
          generalize vs[j]'(by omega) = vj at *
          go_wp2_with (at_builtin; refine wpList_app _ rfl (.tmp 22) (.tmp 29) _ rfl w1.heap.size 5 i0 _ Tryd.underlying22 hi0 hz0 hz1 hz2 rfl _ [] rfl HE.out _ l rfl HV.out (by have := HL.out; simp; omega) (by simp) ?_; intro v3 w3 hown3 hg3 hat3; have HB3 := Lib.hid (below_own (below_new w1 _) (by simp) HE.out hg3); have HO3 := Lib.hid hown3; clear hown3 hg3 hat3)
          go_ret2
          rw [HR.out]
          refine ⟨_, rfl, ?_, HD1.out.below HB3.out, HT1.out.trans (Trn.of_below HB3.out (S := fun _ => False)) (fun _ _ h => h.elim)⟩
          show Own w3 w.heap.size _ v3 (readB (tick s) n)
          rw [HB.out]
          have := HO3.out
          rw [List.nil_append] at this
          exact this.lower (by have := HS1.out; omega)
        · have HB : Hid (readB (tick s) n = sectB s.B n) := by
            rw [Hid]
            unfold readB
            cases hl : lookC (tick s).C n with
            | none => rfl
            | some l =>
              obtain ⟨j, hj, h1, _⟩ := look_place hl
              exact absurd h1 (hno j hj)
          obtain ⟨A3, n3, c3, r3, b3, _, _, _⟩ : ∃ A3 n3 c3, (∀ W, (Instr.slice 22 (.slice (some ⟨ib, 0, none⟩) s.B.length ic) (some (.int .i64 ((n : Int) * 512))) (some (.int .i64 (((n : Int) + 1) * 512))) none).run Tryd.prog W = .ok (.slice A3 n3 c3) W) ∧ Byt (w1.alloc (.cells #[] 5)) (.slice A3 n3 c3) (sectB s.B n) ∧ True ∧ True ∧ True := by
            have h1 := hb.cut (k := 512 * n) (by show 512 * n ≤ s.B.length; omega)
            rw [if_neg (by have : (tick s).B.length = s.B.length := rfl; omega)] at h1
            have h2 := h1.upto (k := 512) (by show 512 ≤ s.B.length - 512 * n; omega)
            simp only [Option.map_some, plainAdd, Nat.zero_add] at h2
            refine ⟨some ⟨ib, 512 * n, none⟩, 512, ic - 512 * n, fun W => ?_, h2, trivial, trivial, trivial⟩
            rw [run_slice_lh W 22 _ s.B.length ic elemByte .i64 .i64 _ _ (by omega) (by omega) (by have : (tick s).B.length = s.B.length := rfl; omega), sizeByte]
            have e1 : ((n : Int) * 512).toNat = 512 * n := by omega
            have e2 : (((n : Int) + 1) * 512).toNat = 512 * n + 512 := by omega
            simp only [Result.andThen, sliced, e1, e2]
            rw [if_neg (by have : (tick s).B.length = s.B.length := rfl; omega)]
            simp [plainAdd]
          have HV := Lib.hid b3
          have HL := Lib.hid (sectB_len hn2)
          have d0' : (w1.alloc (.cells #[] 5)).cell? ⟨g, 0, none⟩ = some (.slice (some ⟨ib, 0, none⟩) s.B.length ic) := d0
          clear hb hvs hve hno b3 d0
          generalize sectB s.B n = l at *
          generalize s.B.length = nb at *
          go_wp2_with (at_builtin; refine wpList_app _ rfl (.tmp 31) (.tmp 41) _ rfl w1.heap.size 5 i0 _ Tryd.underlying22 hi0 hz0 hz1 hz2 rfl _ [] rfl HE.out _ l rfl HV.out (by have := HL.out; simp; omega) (by simp) ?_; intro v3 w3 hown3 hg3 hat3; have HB3 := Lib.hid (below_own (below_new w1 _) (by simp) HE.out hg3); have HO3 := Lib.hid hown3; clear hown3 hg3 hat3)
          go_ret2
          rw [HR.out]
          refine ⟨_, rfl, ?_, HD1.out.below HB3.out, HT1.out.trans (Trn.of_below HB3.out (S := fun _ => False)) (fun _ _ h => h.elim)⟩
          show Own w3 w.heap.size _ v3 (readB (tick s) n)
          rw [HB.out]
          have := HO3.out
          rw [List.nil_append] at this
          exact this.lower (by have := HS1.out; omega)
      · have HR : Hid (readR s (n : Int) = ([], 8, tick s)) := by rw [Hid]; unfold readR; rw [if_pos ⟨by omega, by omega⟩, hbl]; rfl
        rw [hbl] at HF
        clear hbl
        generalize secs s = sec at *
        go_enter Tryd.func59, Tryd.ntmps59
        go_wp2_with fail
        refine HS.out.mono ?_
        rintro e w1 ⟨rfl, rfl⟩
        go_wp2_with fail
        refine HF.out.mono ?_
        rintro e w1 ⟨rfl, hd1, ht1, hs1⟩
        have HD1 := Lib.hid hd1
        have HT1 := Lib.hid ht1
        clear hd1 ht1 hs1
        go_wp2_with fail
        go_ret2
        rw [HR.out]
        exact ⟨_, rfl, World.ownsRow_nil _ _ _ 1, HD1.out, HT1.out⟩
    · have HR : Hid (readR s (n : Int) = ([], 2, s)) := by rw [Hid]; unfold readR; rw [if_neg (by omega)]
      have h1' : ((secs s : Nat) : Int) ≤ (n : Int) := by omega
      clear h1
      generalize secs s = sec at *
      go_enter Tryd.func59, Tryd.ntmps59
      go_wp2_with fail
      refine HS.out.mono ?_
      rintro e w1 ⟨rfl, rfl⟩
      go_wp2_with fail
      go_ret2
      rw [HR.out]
      exact ⟨_, rfl, World.ownsRow_nil _ _ _ 1, H.out, Trn.refl _ _⟩
end Go.Proofs.YtagchbpofoidmaaDoor
