/-
  Package chain's Write by its contract, while no fault is to come and no page is pinned. Conditions: the pages are the pool's.
-/
import Derived.Test.YtknagdbhhfelnaaDoorCCnG
import Derived.Test.YtknagdbhhfelnaaDoorCPlP
import Derived.Test.YtknagdbhhfelnaaDoorCPlF
namespace Go.Proofs.YtknagdbhhfelnaaDoor
open Go.RowKit Go.Maps
set_option maxRecDepth 100000
set_option linter.unusedVariables false

/-- Pages put one behind the other. -/
def putsZ (has : Nat → List UInt8) (l : List (Nat × List UInt8)) : Nat → List UInt8 := l.foldl (fun h x => upd h x.1 x.2) has
theorem putsZ_snoc (has : Nat → List UInt8) (l : List (Nat × List UInt8)) (x : Nat × List UInt8) : putsZ has (l ++ [x]) = upd (putsZ has l) x.1 x.2 := by simp [putsZ, List.foldl_append]
theorem putsZ_out (has : Nat → List UInt8) : ∀ (l : List (Nat × List UInt8)) (x : Nat), x ∉ l.map (·.1) → putsZ has l x = has x := by
  intro l
  induction l generalizing has with
  | nil => intro x _; rfl
  | cons a l ih =>
    intro x hx
    simp only [List.map_cons, List.mem_cons, not_or] at hx
    show putsZ (upd has a.1 a.2) l x = has x
    rw [ih _ _ hx.2, upd_other _ _ hx.1]
theorem putsZ_in (has : Nat → List UInt8) : ∀ (l : List (Nat × List UInt8)) (i : Nat) (h : i < l.length), (l.map (·.1)).Nodup → putsZ has l l[i].1 = l[i].2 := by
  intro l
  induction l generalizing has with
  | nil => intro i h; simp at h
  | cons a l ih =>
    intro i h hn
    simp only [List.map_cons, List.nodup_cons] at hn
    show putsZ (upd has a.1 a.2) l _ = _
    cases i with
    | zero =>
      simp only [List.getElem_cons_zero]
      rw [putsZ_out _ _ _ hn.1, upd_same]
    | succ i =>
      simp only [List.getElem_cons_succ]
      exact ih _ i (by simpa using h) hn.2
/-- What the pages have behind a Write. -/
def wroteH (has : Nat → List UInt8) (k : Nat) (ps : List Nat) (b : List UInt8) : Nat → List UInt8 := putsZ has (ps.zip (chainL k ps b))
theorem chainL_len (k : Nat) (ps : List Nat) (b : List UInt8) : (chainL k ps b).length = ps.length := by simp [chainL]
theorem chainL_get (k : Nat) (ps : List Nat) (b : List UInt8) (i : Nat) (h : i < (chainL k ps b).length) : (chainL k ps b)[i] = chainB k ps b i := by simp [chainL]
theorem zip_fst (k : Nat) (ps : List Nat) (b : List UInt8) : (ps.zip (chainL k ps b)).map (·.1) = ps := by
  rw [← List.unzip_fst, List.unzip_zip (chainL_len k ps b).symm]
theorem wrote_in (has : Nat → List UInt8) (k : Nat) (ps : List Nat) (b : List UInt8) (hn : ps.Nodup) (i : Nat) (h : i < ps.length) : wroteH has k ps b ps[i] = chainB k ps b i := by
  have hl : i < (ps.zip (chainL k ps b)).length := by rw [List.length_zip, chainL_len]; omega
  have := putsZ_in has (ps.zip (chainL k ps b)) i hl (by rw [zip_fst]; exact hn)
  rw [List.getElem_zip] at this
  rw [chainL_get] at this
  exact this
theorem wrote_out (has : Nat → List UInt8) (k : Nat) (ps : List Nat) (b : List UInt8) (x : Nat) (h : x ∉ ps) : wroteH has k ps b x = has x := putsZ_out _ _ _ (by rw [zip_fst]; exact h)

/-- A pool under way: no pins, no fault. -/
def PlT (w : World) (T : Nat → Prop) (p d fb n m : Nat) (has : Nat → List UInt8) : Prop := ∃ P, PAt w T p d fb P ∧ TInv n m has (fun _ => 0) P
theorem PlT.lt {w : World} {T : Nat → Prop} {p d fb n m : Nat} {has : Nat → List UInt8} (h : PlT w T p d fb n m has) : ∀ k, T k → k < w.heap.size := by
  obtain ⟨P, h, _⟩ := h
  exact h.lt
theorem PlT.below {w w' : World} {T : Nat → Prop} {p d fb n m : Nat} {has : Nat → List UInt8} (h : PlT w T p d fb n m has) (hb : Below w.heap.size w w') : PlT w' T p d fb n m has := by
  obtain ⟨P, h, hT⟩ := h
  exact ⟨P, h.below hb, hT⟩
theorem PlT.trn {w w' : World} {T T' : Nat → Prop} {p d fb n m : Nat} {has : Nat → List UInt8} (h : PlT w T p d fb n m has) (ht : Trn T' w w') (hne : ∀ k, T k → ¬ T' k) : PlT w' T p d fb n m has := by
  obtain ⟨P, h, hT⟩ := h
  exact ⟨P, h.trn ht hne, hT⟩
/-- What a call on a pool leaves: its blocks, and new ones. -/
def PlOut (w : World) (T : Nat → Prop) (p d fb n m : Nat) (has : Nat → List UInt8) (w' : World) : Prop := ∃ T', PlT w' T' p d fb n m has ∧ (∀ j, T' j → more T w w' j) ∧ Trn T w w'

theorem rowz_same {w w' : World} {v : Value} {vs : List Value} (h : Rowz w v vs) (hs : w.heap.size ≤ w'.heap.size) (hb : ∀ k, v.ownBlock = some k → w'.heap[k]? = w.heap[k]?) : Rowz w' v vs := by
  obtain ⟨A, c, rfl, h1, h2, h3⟩ := h
  refine ⟨A, c, rfl, h1, h2, ?_⟩
  rcases h3 with h3 | ⟨b, off, rfl, hlt, hc⟩
  · exact .inl h3
  · refine .inr ⟨b, off, rfl, Nat.lt_of_lt_of_le hlt hs, fun j hj => ?_⟩
    rw [← hc j hj]
    exact World.cell?_of_block (a := ⟨b, off + j, none⟩) (hb b rfl)
theorem rowz_lt {w : World} {v : Value} {vs : List Value} (h : Rowz w v vs) (h0 : 0 < vs.length) : ∀ k, v.ownBlock = some k → k < w.heap.size := by
  obtain ⟨A, c, rfl, h1, h2, h3⟩ := h
  intro k hk
  rcases h3 with rfl | ⟨b, off, rfl, hlt, hc⟩
  · simp at h0
  · cases hk
    exact hlt
/-- The loop of Write. -/
def WrRel (w1 : World) (T : Nat → Prop) (p d fb n m : Nat) (has : Nat → List UInt8) (z : List (Nat × List UInt8)) (i : Value) (wr : World) : Prop :=
  ∃ (k : Nat) (T' : Nat → Prop), k ≤ z.length ∧ i = .int .i64 (k : Int) ∧ PlT wr T' p d fb n m (putsZ has (z.take k)) ∧ (∀ j, T' j → more T w1 wr j) ∧ Trn T w1 wr
set_option maxHeartbeats 4000000 in
theorem cwrite_ok (w : World) (T : Nat → Prop) (p d fb n m : Nat) (has : Nat → List UInt8) (k : Nat) (A : Option Addr) (l c : Nat) (vb : Value) (ps : List Nat) (b : List UInt8) (h : PlT w T p d fb n m has) (hv : Rowz w (.slice A l c) (natC ps)) (hvb : Byt w vb b) (hbl : b.length ≤ 1073741824)
    (hk : k = 2 ∨ k = 3 ∨ k = 7) (hl : ps.length = needN b.length) (hm : mayP ps) (hn : ∀ x ∈ ps, x < n) (hvT : ∀ j, (Value.slice A l c).ownBlock = some j → ¬ T j) :
    Calls Tryd.prog 12 #[.pointer (some ⟨p, 0, none⟩), .int .i64 (k : Int), .slice A l c, vb] w fun e w' => e = .returned (.int .i64 0) ∧ PlOut w T p d fb n m (wroteH has k ps b) w' := by
  obtain ⟨P, hP, hT⟩ := h
  obtain ⟨A, l, c, e, N, hnc, hcm⟩ := hv.form
  cases e
  have hln : l = ps.length := N.out.trans (natC_len ps)
  subst hln
  have hpos : 0 < ps.length := by rw [hl]; exact needN_pos _
  have hlen : ps.length ≤ 1073741824 := by rw [hl]; unfold needN; omega
  have HMD := Lib.hid (cmade_is hP)
  have HP := Lib.hid hP
  have HT := Lib.hid hT
  have HV := Lib.hid hv
  have HVT := Lib.hid hvT
  have HNN := Lib.hid hn
  have HLN := Lib.hid hlen
  have HZ : Hid ((ps.zip (chainL k ps b)).length = ps.length) := by rw [Hid, List.length_zip, chainL_len]; omega
  have HPG := Lib.hid fun w1 (hb : Below w.heap.size w w1) => cpages_ok w1 k A ps.length c vb ps b (hv.below hb) (hvb.below hb) (fun x hx => by have := (hm.2 x hx).2; omega) hbl hk hl hm
  obtain ⟨Ab, mb, cb, rfl, _, _, _⟩ := hvb.form
  clear hP hT hv hvb hvT hn hlen hbl hk hl hm N
  go_enter Tryd.func12, Tryd.ntmps12
  go_wp2_with fail
  refine HMD.out.mono ?_
  rintro e w1 ⟨rfl, hb1⟩
  have HB1 := Lib.hid hb1
  clear hb1
  go_wp2_with fail
  refine (HPG.out w1 HB1.out).mono ?_
  rintro e w2 ⟨lv, vs, rfl, hlr, hls, hb2⟩
  have hvl : vs.length = ps.length := by rw [hls.1, chainL_len]
  obtain ⟨Al, cl, rfl⟩ := ownsRow_form hlr
  have HLR := Lib.hid hlr
  have HLS := Lib.hid hls
  have HVL := Lib.hid hvl
  have HB2 : Hid (Below w.heap.size w w2) := HB1.out.trans (hb2.mono HB1.out.size)
  have HTW : Hid (∀ j, T j → j < w1.heap.size) := fun j hj => Nat.lt_of_lt_of_le (HP.out.lt j hj) HB1.out.size
  have HPT : Hid (PlT w2 T p d fb n m has) := ⟨P, HP.out.below HB2.out, HT.out⟩
  clear hlr hls hvl hb2
  go_wp2_with fail
  go_loopw [29] (fun i wr => WrRel w2 T p d fb n m has (ps.zip (chainL k ps b)) i wr) (fun i _ => ps.length - (intOf i).toNat)
  case atStart => exact ⟨0, T, Nat.zero_le _, rfl, HPT.out, fun j hj => .inl hj, Trn.refl _ _⟩
  case round =>
    obtain ⟨q, T', hq, rfl, hpt, hT', htr⟩ := hrel
    rw [HZ.out] at hq
    have HTR := Lib.hid htr
    have HT' := Lib.hid hT'
    by_cases hlt : q < ps.length
    · have hqn : (q : Int) < (ps.length : Int) := by omega
      have hqz : q < (ps.zip (chainL k ps b)).length := by rw [HZ.out]; exact hlt
      have hqc : q < (chainL k ps b).length := by rw [chainL_len]; exact hlt
      have hqv : q < vs.length := by rw [HVL.out]; exact hlt
      have hZT : (ps.zip (chainL k ps b)).take (q + 1) = (ps.zip (chainL k ps b)).take q ++ [(ps[q], (chainL k ps b)[q])] := by
        rw [List.take_succ_eq_append_getElem hqz, List.getElem_zip]
      have HZT := Lib.hid hZT
      have HCL : Hid ((chainL k ps b)[q].length = 4096) := by rw [Hid, chainL_get]; exact chainB_len _ _ _ _
      have HXN : Hid (ps[q] < n) := HNN.out _ (List.getElem_mem hlt)
      have hv' : Rowz wr (.slice A ps.length c) (natC ps) := by
        have h0 := HV.out.below HB2.out
        refine rowz_same h0 HTR.out.size (fun j hj => HTR.out.block j (rowz_lt h0 (by rw [natC_len]; exact hpos) j hj) (fun h => HVT.out j hj h))
      obtain ⟨bb, off, rfl, hbb, hc⟩ := hv'.at (k := q) (by rw [natC_len]; exact hlt)
      have c1 : wr.cell? ⟨bb, off + q, none⟩ = some (.int .i64 (ps[q] : Int)) := (hc q (by rw [natC_len]; exact hlt)).trans (by simp [natC])
      have hlr' : Rowz wr (.slice Al vs.length cl) vs := by
        have h0 : Rowz w2 (.slice Al vs.length cl) vs := OwnV.rowz (e := 27) HLR.out
        refine rowz_same h0 HTR.out.size (fun j hj => HTR.out.block j (rowz_lt h0 (by omega) j hj) (fun h => ?_))
        have h1 := HTW.out j h
        have h2 := (World.ownsRow.lt HLR.out j hj).1
        omega
      obtain ⟨b2, o2, rfl, hb2, hc2⟩ := hlr'.at (k := q) hqv
      have c2 := hc2 q hqv
      have hov := HLS.out.2 q hqv hqc
      have HOV : Hid (Byt wr vs[q] (chainL k ps b)[q] ∧ ∀ j, vs[q].ownBlock = some j → ¬ T' j ∧ j < wr.heap.size) := by
        have hs2 := HTR.out.size
        have hin : ∀ j, vs[q].ownBlock = some j → ¬ T j ∧ j < w2.heap.size := fun j hj => by
          obtain ⟨h1, h2⟩ := World.ownsRow.lt hov j hj
          exact ⟨fun h => by have := HTW.out j h; omega, h2⟩
        refine ⟨byt_same hov.byt hs2 (fun j hj => HTR.out.block j (hin j hj).2 (hin j hj).1), fun j hj => ⟨fun h => ?_, by have := (hin j hj).2; omega⟩⟩
        rcases HT'.out j h with h | h
        · exact (hin j hj).1 h
        · have := (hin j hj).2; omega
      obtain ⟨P2, hp2, ht2⟩ := hpt
      obtain ⟨Av, mv, cv, hve, _, _, _⟩ := HOV.out.1.form
      clear hc hc2 hov htr hT' hv' hlr' hZT
      generalize (chainL k ps b)[q] = pg at *
      generalize vs[q] = v at *
      generalize ps[q] = x at *
      subst hve
      have hpf := put_free ht2 HXN.out HCL.out
      have HPF := Lib.hid hpf
      have HPU := Lib.hid (pput_is hp2 (x : Int) _ pg HOV.out.1 HOV.out.2)
      clear hpf hp2 ht2
      go_wp2_with fail
      refine HPU.out.mono ?_
      rintro e w4 ⟨rfl, hp4, ht4⟩
      rw [HPF.out.1]
      have HP4 := Lib.hid hp4
      have HT4 := Lib.hid ht4
      clear hp4 ht4 c1 c2
      go_wp2_with fail
      go_roundw
      case rel =>
        refine ⟨q + 1, more T' wr w4, by rw [HZ.out]; omega, by go_num, ⟨_, HP4.out, ?_⟩, fun j hj => ?_, ?_⟩
        · rw [HZT.out, putsZ_snoc]
          exact HPF.out.2
        · rcases hj with hj | hj
          · rcases HT'.out j hj with h | h
            · exact .inl h
            · exact .inr ⟨h.1, by have := HT4.out.size; omega⟩
          · exact .inr ⟨by have := HTR.out.size; omega, hj.2⟩
        · refine HTR.out.trans HT4.out (fun j hj hT2 => ?_)
          rcases HT'.out j hT2 with h | h
          · exact h
          · omega
      case measure => simp [intOf]; omega
    · obtain rfl : q = ps.length := by omega
      have hpt' : PlT wr T' p d fb n m (wroteH has k ps b) := by
        have := hpt
        rw [← HZ.out, List.take_length] at this
        exact this
      have HPT' := Lib.hid hpt'
      clear hpt hpt' htr hT'
      go_wp2_with fail
      go_ret
      refine ⟨rfl, T', HPT'.out, fun j hj => ?_, ?_⟩
      · rcases HT'.out j hj with h | h
        · exact .inl h
        · exact .inr ⟨by have := HB2.out.size; omega, h.2⟩
      · exact (Trn.of_below HB2.out (S := T)).trans HTR.out (fun _ _ h => h)
theorem cwrite_nil (w : World) (k : Int) (v vb : Value) : Calls Tryd.prog 12 #[.pointer none, .int .i64 k, v, vb] w fun e w' => e = .returned (.int .i64 1) ∧ Below w.heap.size w w' := by
  have HMD := Lib.hid (cmade_nil w)
  go_enter Tryd.func12, Tryd.ntmps12
  go_wp2_with fail
  refine HMD.out.mono ?_
  rintro e w1 ⟨rfl, hb1⟩
  have HB1 := Lib.hid hb1
  clear hb1
  go_wp2_with fail
  go_ret
  exact ⟨rfl, HB1.out⟩
end Go.Proofs.YtknagdbhhfelnaaDoor
