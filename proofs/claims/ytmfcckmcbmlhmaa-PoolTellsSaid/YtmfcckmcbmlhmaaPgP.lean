/-
  Package page over sectors: Save by its contract. Conditions: none but that the disk and the bytes lie there, apart.
-/
import Derived.Test.YtmfcckmcbmlhmaaPgO
namespace Go.Proofs.Ytmfcckmcbmlhmaa
open Go.RowKit Go.Maps
set_option maxRecDepth 100000

def partB (b : List UInt8) (i : Nat) : List UInt8 := (b.drop (512 * i)).take 512
theorem partB_len {b : List UInt8} {i : Nat} (hb : b.length = 4096) (hi : i < 8) : (partB b i).length = 512 := by unfold partB; rw [List.length_take, List.length_drop]; omega
/-- A page's sectors written, k of them left. -/
def saveI (n : Nat) (b : List UInt8) : Nat → St → Nat × St
  | 0, s => (0, s)
  | k + 1, s => if (writeR s ((8 * n + (7 - k) : Nat) : Int) (partB b (7 - k))).1 = 0 then saveI n b k (writeR s ((8 * n + (7 - k) : Nat) : Int) (partB b (7 - k))).2 else writeR s ((8 * n + (7 - k) : Nat) : Int) (partB b (7 - k))
def saveP (s : St) (x : Int) (b : List UInt8) : Nat × St := if (0 ≤ x ∧ x < ((secs s / 8 : Nat) : Int)) ∧ b.length = 4096 then saveI x.toNat b 8 s else (2, s)
theorem saveI_next {n i : Nat} {b : List UInt8} (hi : i < 8) (s : St) : saveI n b (8 - i) s = if (writeR s ((8 * n + i : Nat) : Int) (partB b i)).1 = 0 then saveI n b (8 - (i + 1)) (writeR s ((8 * n + i : Nat) : Int) (partB b i)).2 else writeR s ((8 * n + i : Nat) : Int) (partB b i) := by
  rw [show 8 - i = (7 - i) + 1 by omega, saveI, show 7 - (7 - i) = i by omega, show 8 - (i + 1) = 7 - i by omega]
theorem writeR_in (s : St) (x : Int) (l : List UInt8) : (writeR s x l).1 ≤ 8 ∧ secs (writeR s x l).2 = secs s := by
  unfold writeR
  split
  · split
    · exact ⟨by omega, rfl⟩
    · exact ⟨by omega, rfl⟩
  · exact ⟨by omega, rfl⟩
theorem cut_block {A : Option Addr} {n c k n1 c1 : Nat} {P : Prop} [Decidable P] : ∀ j, (Value.slice (if P then A else A.map (·.add k)) n1 c1).ownBlock = some j → (Value.slice A n c).ownBlock = some j := by
  intro j
  cases A <;> split <;> simp [Value.ownBlock, Addr.add]
  split <;> exact id
theorem Byt.midrunO {w : World} {A : Option Addr} {n c : Nat} {l : List UInt8} (h : Byt w (.slice A n c) l) (a b : Nat) (hab : a ≤ b) (hb : b ≤ n) :
    ∃ A1 n1 c1, (∀ W, (Instr.slice 29 (.slice A n c) (some (.int .i64 (a : Int))) (some (.int .i64 (b : Int))) none).run Try.prog W = .ok (.slice A1 n1 c1) W) ∧ Byt w (.slice A1 n1 c1) ((l.drop a).take (b - a)) ∧ (∀ j, (Value.slice A1 n1 c1).ownBlock = some j → (Value.slice A n c).ownBlock = some j) := by
  have h1 := h.cut (k := a) (by omega)
  have h2 := h1.upto (k := b - a) (by omega)
  have hln : l.length = n ∧ n ≤ c := by obtain ⟨_, _, hv, h9, _⟩ := h; injection hv with _ e e9; subst e9; exact ⟨e.symm, by omega⟩
  refine ⟨_, b - a, _, fun W => ?_, h2, cut_block⟩
  rw [run_slice_lh W 29 _ n c elemByte .i64 .i64 _ _ (by omega) (by omega) (by omega), sizeByte]
  simp [Result.andThen, sliced]
set_option maxRecDepth 100000 in
set_option maxHeartbeats 2000000 in
/-- The closure that Save hands to through. -/
theorem save1_is (w : World) (S : Nat → Prop) (d db bb a pt : Nat) (s : St) (A : Option Addr) (c : Nat) (l : List UInt8) (h : Dsk w S d s) (hd : One w db (.pointer (some ⟨d, 0, none⟩)) 26) (hb : One w bb (.slice A 4096 c) 29)
    (hv : Byt w (.slice A 4096 c) l) (hne : ∀ k, (Value.slice A 4096 c).ownBlock = some k → ¬ S k) (hdb : ¬ S db) (hbb : ¬ S bb) (hpt : pt + 512 ≤ 4096) :
    Calls Try.prog 49 #[.int .i64 (a : Int), .int .i64 (pt : Int), .pointer (some ⟨db, 0, none⟩), .pointer (some ⟨bb, 0, none⟩)] w (Done w S d (writeR s (a : Int) ((l.drop pt).take 512))) := by
  obtain ⟨A1, n1, c1, hcut, hby, hob⟩ := hv.midrunO pt (pt + 512) (by omega) hpt
  rw [show ((pt + 512 : Nat) : Int) = (pt : Int) + 512 by omega] at hcut
  have hwp : IntKind.i64.wrap ((pt : Int) + 512) = (pt : Int) + 512 := by rw [IntKind.wrap_i64]; omega
  rw [Nat.add_sub_cancel_left] at hby
  have htd : Trn S w w.drew := (Trn.refl S w).drew
  have HD := Lib.hid (hd.trn htd hdb)
  have HB := Lib.hid (hb.trn htd hbb)
  have HND := Lib.hid hdb
  have HNB := Lib.hid hbb
  have HWR := Lib.hid (write_any w.drew S d s (a : Int) (.slice A1 n1 c1) _ (h.below (Below.refl _ _).drew) (hby.below (Below.refl _ _).drew) (fun k e => hne k (hob k e)))
  generalize writeR s (a : Int) ((l.drop pt).take 512) = r at *
  have HDN : Hid (∀ e w', Done w.drew S d r e w' → Done w S d r e w') := fun e w' h => ⟨h.1, h.2.1, htd.trans h.2.2 (fun _ _ h => h)⟩
  clear h hd hb hv hne hdb hbb hby hob htd
  go_enter Try.func49, Try.ntmps49
  go_wp2_with fail
  refine wp_region_R (R := fun x y => Trn S x y) (by kernel_rfl) (fun _ => Trn.refl _ _) (fun h k => h.trans k (fun _ _ h => h)) (by kernel_rfl) (fun d v c a w h => by cases d <;> exact h)
    [(0, false), (1, false), (2, false), (3, false), (4, false), (5, false), (6, false), (7, true), (8, false)] rfl (by kernel_rfl) (by kernel_rfl) ?_
  simp only [sel, List.getElem?_toArray, List.getElem?_cons_succ, List.getElem?_cons_zero]
  generalize w.drew = wd at *
  (refine sch_take ?_ rfl ?_ ?_; rotate_left; (focus (intro u hu; have c1 := (HD.out.trn hu HND.out).cell; clear hu; go_simp <;> rfl)); simp only [Act.put, List.setIfInBounds_toArray, List.set_cons_zero, List.set_cons_succ])
  (refine sch_take ?_ rfl ?_ ?_; rotate_left; (focus (intro u hu; go_simp <;> rfl)); simp only [Act.put, List.setIfInBounds_toArray, List.set_cons_zero, List.set_cons_succ])
  (refine sch_take ?_ rfl ?_ ?_; rotate_left; (focus (intro u hu; have c1 := (HB.out.trn hu HNB.out).cell; clear hu; go_simp <;> rfl)); simp only [Act.put, List.setIfInBounds_toArray, List.set_cons_zero, List.set_cons_succ])
  iterate 4 (refine sch_take ?_ rfl ?_ ?_; rotate_left; (focus (intro u hu; go_simp <;> rfl)); simp only [Act.put, List.setIfInBounds_toArray, List.set_cons_zero, List.set_cons_succ])
  refine sch_call rfl ?_
  intro K hK
  go_simp
  refine (HWR.out).mono ?_
  rintro e w4 hdn; obtain ⟨rfl, hdk4, ht4⟩ := id hdn
  go_wp2_with fail
  refine hK _ _ ht4 ?_
  clear hK K
  have HDD := Lib.hid (HDN.out _ _ hdn)
  clear hdn hdk4 ht4
  (refine sch_take ?_ rfl ?_ ?_; rotate_left; (focus (intro u hu; go_simp <;> rfl)); simp only [Act.put, List.setIfInBounds_toArray, List.set_cons_zero, List.set_cons_succ])
  refine sch_nil ?_
  go_wp2_with fail
  go_ret
  exact HDD.out
theorem enterS1 : ∀ args W, (callFunc 49 args).run Try.prog W = .ok (.enter 49 args) W := fun _ _ => rfl
/-- Save under way: i sectors are written. -/
structure SaveSt (w0 : World) (S S' : Nat → Prop) (d db bb n : Nat) (x0 x1 : Nat) (s : St) (A : Option Addr) (c : Nat) (b : List UInt8) (i : Nat) (W : World) (s' : St) : Prop where
  dsk : Dsk W S' d s'
  foot : ∀ k, S' k → S k ∨ x1 ≤ k
  cd : One W db (.pointer (some ⟨d, 0, none⟩)) 26
  cb : One W bb (.slice A 4096 c) 29
  byt : Byt W (.slice A 4096 c) b
  sec : secs s' = secs s
  rest : saveI n b 8 s = saveI n b (8 - i) s'
  trn : Trn S w0 W
def SaveJ (w0 : World) (S : Nat → Prop) (d n x1 : Nat) (s : St) (b : List UInt8) (er : Nat) (W : World) : Prop := ∃ S' s', saveI n b 8 s = (er, s') ∧ Dsk W S' d s' ∧ (∀ k, S' k → S k ∨ x1 ≤ k) ∧ Trn S w0 W
theorem byt_set {W : World} {A : Option Addr} {n c j : Nat} {v : Value} {l : List UInt8} (h : Byt W (.slice A n c) l) (hne : ∀ k, (Value.slice A n c).ownBlock = some k → k ≠ j) : Byt (W.setCell ⟨j, 0, none⟩ v) (.slice A n c) l := h.trn (trn_set W j v) hne
theorem save_through (w0 w : World) (S : Nat → Prop) (d db bb n : Nat) (s : St) (A : Option Addr) (c : Nat) (b : List UInt8) (hn : n < secs s / 8) (hs8 : secs s ≤ 32768) (h : Dsk w S d s) (hcd : One w db (.pointer (some ⟨d, 0, none⟩)) 26) (hcb : One w bb (.slice A 4096 c) 29)
    (hby : Byt w (.slice A 4096 c) b) (hne : ∀ k, (Value.slice A 4096 c).ownBlock = some k → ¬ S k ∧ k < w.heap.size) (htr : Trn S w0 w) (hS : ∀ k, S k → k < w0.heap.size) (hdb : w0.heap.size ≤ db ∧ db < w.heap.size) (hbb : w0.heap.size ≤ bb ∧ bb < w.heap.size) :
    Calls Try.prog 46 #[.int .i64 (n : Int), .func (.func 49) #[] #[.pointer (some ⟨db, 0, none⟩), .pointer (some ⟨bb, 0, none⟩)]] w (ThPost (fun i W => ∃ S' s', SaveSt w0 S S' d db bb n w0.heap.size (w.heap.size + 2) s A c b i W s') (SaveJ w0 S d n (w.heap.size + 2) s b)) := by
  have hw := htr.size
  refine through_any w n _ _ _ _ (by omega) enterS1 ?_ ?_ ?_ ?_
  · intro W hb _
    have ht : Trn (fun _ => False) w W := Trn.of_below hb
    exact ⟨S, s, h.below hb, fun k hk => .inl hk, hcd.trn ht (fun f => f), hcb.trn ht (fun f => f), hby.below hb, rfl, rfl, htr.trans ht (fun _ _ f => f.elim)⟩
  · rintro i W hi ⟨S', s', hst⟩ hm1 hm2
    have hW1 : w.heap.size + 1 < W.heap.size := (Array.getElem?_eq_some_iff.1 hm2).1
    have nk : ∀ k, w0.heap.size ≤ k → k < w.heap.size + 2 → ¬ S' k := fun k h1 h2 h => (hst.foot k h).elim (fun h => by have := hS _ h; omega) (fun h => by omega)
    have nb : ∀ k, (Value.slice A 4096 c).ownBlock = some k → ¬ S' k := fun k e h => (hst.foot k h).elim (hne k e).1 (fun h => by have := (hne k e).2; omega)
    have hnx := saveI_next (n := n) (b := b) hi s'
    have hwi := writeR_in s' ((8 * n + i : Nat) : Int) (partB b i)
    refine (save1_is W S' d db bb (8 * n + i) (512 * i) s' A c b hst.dsk hst.cd hst.cb hst.byt nb (nk _ hdb.1 (by omega)) (nk _ hbb.1 (by omega)) (by omega)).mono ?_
    rintro e w' ⟨rfl, hdk, ht⟩
    rw [show (b.drop (512 * i)).take 512 = partB b i from rfl] at *
    have hfoot : ∀ k, more S' W w' k → S k ∨ w.heap.size + 2 ≤ k := fun k hk => hk.elim (hst.foot k) (fun h => .inr (by omega))
    have htr' : Trn S w0 w' := hst.trn.trans ht (fun k hk h => (hst.foot k h).elim id (fun e => by omega))
    refine ⟨_, rfl, by have := hwi.1; omega, (ht.block _ (Array.getElem?_eq_some_iff.1 hm1).1 (nk _ hw (by omega))).trans hm1, (ht.block _ (Array.getElem?_eq_some_iff.1 hm2).1 (nk _ (by omega) (by omega))).trans hm2, fun e0 => ?_, fun e0 => ?_⟩
    · refine ⟨_, _, hdk, hfoot, hst.cd.trn ht (nk _ hdb.1 (by omega)), hst.cb.trn ht (nk _ hbb.1 (by omega)), hst.byt.trn ht nb, hwi.2.trans hst.sec, ?_, htr'⟩
      rw [hst.rest, hnx, if_pos e0]
    · refine ⟨_, _, ?_, hdk, hfoot, htr'⟩
      rw [hst.rest, hnx, if_neg e0]
  · rintro i W j v ⟨S', s', hst⟩ hj
    have nj : ¬ S' j := fun h => (hst.foot j h).elim (fun h => by have := hS _ h; omega) (fun h => by omega)
    exact ⟨S', s', hst.dsk.trn (trn_set W j v) (fun k hk e => nj (e ▸ hk)), hst.foot, hst.cd.trn (trn_set W j v) (by omega), hst.cb.trn (trn_set W j v) (by omega), byt_set hst.byt (fun k e => by have := (hne k e).2; omega), hst.sec, hst.rest, hst.trn.setCell _ (fun hlt => by omega)⟩
  · rintro i W j v ⟨S', s', h1, h2, h3, h4⟩ hj
    have nj : ¬ S' j := fun h => (h3 j h).elim (fun h => by have := hS _ h; omega) (fun h => by omega)
    exact ⟨S', s', h1, h2.trn (trn_set W j v) (fun k hk e => nj (e ▸ hk)), h3, h4.setCell _ (fun hlt => by omega)⟩
theorem foot_more {w0 w' : World} {S S' : Nat → Prop} {d x1 : Nat} {s : St} (h : Dsk w' S' d s) (hf : ∀ k, S' k → S k ∨ x1 ≤ k) (hx : w0.heap.size ≤ x1) (hS : ∀ k, S k → k < w0.heap.size) (hw : w0.heap.size ≤ w'.heap.size) : Dsk w' (more S w0 w') d s :=
  h.wide (fun k hk => (hf k hk).elim .inl (fun e => .inr ⟨by omega, h.lt k hk⟩)) (more_lt hw hS)
set_option maxRecDepth 100000 in
set_option maxHeartbeats 2000000 in
theorem save_is (w : World) (S : Nat → Prop) (d : Nat) (s : St) (x : Int) (v : Value) (b : List UInt8) (h : Dsk w S d s) (hv : Byt w v b) (hne : ∀ k, v.ownBlock = some k → ¬ S k) (hlo : ∀ k, v.ownBlock = some k → k < w.heap.size) :
    Calls Try.prog 41 #[.pointer (some ⟨d, 0, none⟩), .int .i64 x, v] w (Done w S d (saveP s x b)) := by
  have hmf : ∀ (fn : Fn) (first cap : Array Value) (w : World), (Instr.makeFunc fn first cap).run Try.prog w = .ok (.func fn first cap) w := fun _ _ _ _ => rfl
  obtain ⟨A, m, c, rfl, N, hnc, hcm⟩ := hv.form
  obtain ⟨wa, hwa⟩ : ∃ wa, w.alloc (.cells #[.pointer (some ⟨d, 0, none⟩)] 26) = wa := ⟨_, rfl⟩
  obtain ⟨w1, hw1⟩ : ∃ w1, wa.alloc (.cells #[.slice A m c] 29) = w1 := ⟨_, rfl⟩
  have hba : Below w.heap.size w wa := hwa ▸ below_new w _
  have hb1 : Below wa.heap.size wa w1 := hw1 ▸ below_new wa _
  have hb : Below w.heap.size w w1 := hba.trans (hb1.mono hba.size)
  have hsa : wa.heap.size = w.heap.size + 1 := by rw [← hwa]; simp
  have hs1 : w1.heap.size = w.heap.size + 2 := by rw [← hw1]; simp [hsa]
  have oa : One w1 w.heap.size (.pointer (some ⟨d, 0, none⟩)) 26 := (hwa ▸ of_box : One wa w.heap.size (.pointer (some ⟨d, 0, none⟩)) 26).trn (Trn.of_below hb1 : Trn (fun _ => False) wa w1) (fun f => f)
  have ob : One w1 (w.heap.size + 1) (.slice A m c) 29 := by
    have := (hw1 ▸ of_box : One w1 wa.heap.size (.slice A m c) 29)
    rw [hsa] at this
    exact this
  have c1 := oa.cell
  have c2 := ob.cell
  have HW1 : Hid ((w.alloc (.cells #[.pointer (some ⟨d, 0, none⟩)] 26)).alloc (.cells #[.slice A m c] 29) = w1) := by rw [Hid, hwa, hw1]
  have HB1 := Lib.hid hb
  have HS1 := Lib.hid hs1
  have HOA := Lib.hid oa
  have HOB := Lib.hid ob
  have HV := Lib.hid hv
  have HM := Lib.hid (missing_is w1 S d s x (h.below hb))
  have H := Lib.hid h
  have HNE := Lib.hid hne
  have HLO := Lib.hid hlo
  clear h hv hne hlo hw1 hwa hba hb1 hb hsa hs1 oa ob
  by_cases hx : 0 ≤ x ∧ x < ((secs s / 8 : Nat) : Int)
  · rw [if_pos hx] at HM
    by_cases hl : b.length = 4096
    · obtain ⟨n, rfl⟩ := Int.eq_ofNat_of_zero_le hx.1
      have hn : n < secs s / 8 := by omega
      have hp : saveP s (n : Int) b = saveI n b 8 s := by unfold saveP; rw [if_pos ⟨hx, hl⟩, Int.toNat_natCast]
      rw [hp]
      have HN := Lib.hid hn
      obtain rfl : m = 4096 := N.out.trans hl
      clear hx hn hp hl
      generalize hQ : saveI n b 8 s = r
      have HQ := Lib.hid hQ
      clear hQ
      go_enter Try.func41, Try.ntmps41
      go_wp2_with fail
      rw [HW1.out]
      go_wp2_with fail
      refine HM.out.mono ?_
      rintro e w2 ⟨rfl, rfl⟩
      go_wp2_with fail
      have HT := Lib.hid (save_through w w1 S d w.heap.size (w.heap.size + 1) n s A c b HN.out H.out.ok.few (H.out.below HB1.out) HOA.out HOB.out (HV.out.below HB1.out) (fun k e => ⟨HNE.out k e, by have := HLO.out k e; have := HB1.out.size; omega⟩) (Trn.of_below HB1.out) H.out.lt ⟨Nat.le_refl _, by have := HS1.out; omega⟩ ⟨by omega, by have := HS1.out; omega⟩)
      refine HT.out.mono ?_
      rintro e w5 (⟨rfl, S', s', hst⟩ | ⟨er, her, rfl, S', s', hl, hdk, hf, ht⟩)
      · have HST := Lib.hid hst
        clear hst
        go_wp2_with fail
        go_ret
        have hrest := HST.out.rest
        rw [Nat.sub_self, saveI] at hrest
        rw [← HQ.out, hrest]
        exact ⟨rfl, foot_more HST.out.dsk HST.out.foot (by have := HB1.out.size; omega) H.out.lt HST.out.trn.size, HST.out.trn⟩
      · have HLL := Lib.hid hl
        have HDK := Lib.hid hdk
        have HF := Lib.hid hf
        have HTR := Lib.hid ht
        clear hl hdk hf ht her
        go_wp2_with fail
        go_ret
        rw [← HQ.out, HLL.out]
        exact ⟨rfl, foot_more HDK.out HF.out (by have := HB1.out.size; omega) H.out.lt HTR.out.size, HTR.out⟩
    · have hp : saveP s x b = (2, s) := by unfold saveP; rw [if_neg (fun h => hl h.2)]
      rw [hp]
      have hm : ((m : Int) != 4096) = true := by have := N.out; simp only [bne, beq_eq_false_iff_ne, Bool.not_eq_true', ne_eq]; omega
      clear hx hp hl N
      go_enter Try.func41, Try.ntmps41
      go_wp2_with fail
      rw [HW1.out]
      go_wp2_with fail
      refine HM.out.mono ?_
      rintro e w2 ⟨rfl, rfl⟩
      go_wp2_with fail
      go_ret
      exact ⟨rfl, (H.out.below HB1.out).more HB1.out.size H.out.lt, Trn.of_below HB1.out⟩
  · rw [if_neg hx] at HM
    have hp : saveP s x b = (2, s) := by unfold saveP; rw [if_neg (fun h => hx h.1)]
    rw [hp]
    clear hx hp N
    go_enter Try.func41, Try.ntmps41
    go_wp2_with fail
    rw [HW1.out]
    go_wp2_with fail
    refine HM.out.mono ?_
    rintro e w2 ⟨rfl, rfl⟩
    go_wp2_with fail
    go_ret
    exact ⟨rfl, (H.out.below HB1.out).more HB1.out.size H.out.lt, Trn.of_below HB1.out⟩
theorem save_nil (w : World) (x : Int) (v : Value) (b : List UInt8) (hv : Byt w v b) : Calls Try.prog 41 #[.pointer none, .int .i64 x, v] w fun e w' => e = .returned (.int .i64 1) ∧ Below w.heap.size w w' := by
  obtain ⟨A, m, c, rfl, N, hnc, hcm⟩ := hv.form
  obtain ⟨wa, hwa⟩ : ∃ wa, w.alloc (.cells #[.pointer none] 26) = wa := ⟨_, rfl⟩
  obtain ⟨w1, hw1⟩ : ∃ w1, wa.alloc (.cells #[.slice A m c] 29) = w1 := ⟨_, rfl⟩
  have hba : Below w.heap.size w wa := hwa ▸ below_new w _
  have hb1 : Below wa.heap.size wa w1 := hw1 ▸ below_new wa _
  have hb : Below w.heap.size w w1 := hba.trans (hb1.mono hba.size)
  have hsa : wa.heap.size = w.heap.size + 1 := by rw [← hwa]; simp
  have hs1 : w1.heap.size = w.heap.size + 2 := by rw [← hw1]; simp [hsa]
  have oa : One w1 w.heap.size (.pointer none) 26 := (hwa ▸ of_box : One wa w.heap.size (.pointer none) 26).trn (Trn.of_below hb1 : Trn (fun _ => False) wa w1) (fun f => f)
  have ob : One w1 (w.heap.size + 1) (.slice A m c) 29 := by
    have := (hw1 ▸ of_box : One w1 wa.heap.size (.slice A m c) 29)
    rw [hsa] at this
    exact this
  have c1 := oa.cell
  have c2 := ob.cell
  have HW1 : Hid ((w.alloc (.cells #[.pointer none] 26)).alloc (.cells #[.slice A m c] 29) = w1) := by rw [Hid, hwa, hw1]
  have HB1 := Lib.hid hb
  have HS1 := Lib.hid hs1
  have HOA := Lib.hid oa
  have HOB := Lib.hid ob
  have HM := Lib.hid (missing_nil w1 x)
  clear hv hw1 hwa hba hb1 hb hsa hs1 oa ob N
  go_enter Try.func41, Try.ntmps41
  go_wp2_with fail
  rw [HW1.out]
  go_wp2_with fail
  refine HM.out.mono ?_
  rintro e w2 ⟨rfl, rfl⟩
  go_wp2_with fail
  go_ret
  exact ⟨rfl, HB1.out⟩
end Go.Proofs.Ytmfcckmcbmlhmaa
