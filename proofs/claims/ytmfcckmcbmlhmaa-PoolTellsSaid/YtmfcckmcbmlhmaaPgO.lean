/-
  Package page over sectors: Load by its contract. Conditions: none but that the disk lies there.
-/
import Derived.Test.YtmfcckmcbmlhmaaPgN
import Derived.Test.YtmfcckmcbmlhmaaSecN
namespace Go.Proofs.Ytmfcckmcbmlhmaa
open Go.RowKit Go.Maps
set_option maxRecDepth 100000

/-- A page's sectors read, k of them left, what came so far. -/
def loadI (n : Nat) : Nat → St → List UInt8 → List UInt8 × Nat × St
  | 0, s, acc => (acc, 0, s)
  | k + 1, s, acc => if (readR s ((8 * n + (7 - k) : Nat) : Int)).2.1 = 0 then loadI n k (readR s ((8 * n + (7 - k) : Nat) : Int)).2.2 (acc ++ (readR s ((8 * n + (7 - k) : Nat) : Int)).1) else ([], (readR s ((8 * n + (7 - k) : Nat) : Int)).2.1, (readR s ((8 * n + (7 - k) : Nat) : Int)).2.2)
def loadP (s : St) (x : Int) : List UInt8 × Nat × St := if 0 ≤ x ∧ x < ((secs s / 8 : Nat) : Int) then loadI x.toNat 8 s [] else ([], 2, s)
theorem loadI_next {n i : Nat} (hi : i < 8) (s : St) (acc : List UInt8) : loadI n (8 - i) s acc = if (readR s ((8 * n + i : Nat) : Int)).2.1 = 0 then loadI n (8 - (i + 1)) (readR s ((8 * n + i : Nat) : Int)).2.2 (acc ++ (readR s ((8 * n + i : Nat) : Int)).1) else ([], (readR s ((8 * n + i : Nat) : Int)).2.1, (readR s ((8 * n + i : Nat) : Int)).2.2) := by
  rw [show 8 - i = (7 - i) + 1 by omega, loadI, show 7 - (7 - i) = i by omega, show 8 - (i + 1) = 7 - i by omega]
theorem readR_in {s : St} {a : Nat} (ok : OkSt s) (h : a < secs s) : ((readR s (a : Int)).2.1 = 0 → (readR s (a : Int)).1.length = 512) ∧ ((readR s (a : Int)).2.1 ≠ 0 → (readR s (a : Int)).1 = []) ∧ (readR s (a : Int)).2.1 ≤ 8 ∧ secs (readR s (a : Int)).2.2 = secs s ∧ OkSt (readR s (a : Int)).2.2 := by
  unfold readR
  rw [if_pos ⟨by omega, by omega⟩]
  cases hb : blows s.F
  · simp only [Bool.false_eq_true, if_false, Int.toNat_natCast]
    exact ⟨fun _ => readB_len ok h, fun e => by simp at e, by omega, rfl, ok.tick⟩
  · simp only [if_true]
    exact ⟨fun e => absurd e (by omega), fun _ => by first | rfl | trivial, by omega, rfl, ok.tick⟩
/-- Block k holds this value alone. -/
def One (w : World) (k : Nat) (v : Value) (t : TypeId) : Prop := w.heap[k]? = some (.cells #[v] t (0, 0))
theorem One.cell {w : World} {k : Nat} {v : Value} {t : TypeId} (h : One w k v t) : w.cell? ⟨k, 0, none⟩ = some v := by rw [cell_of_row _ _ _ _ _ _ h]; rfl
theorem One.lt {w : World} {k : Nat} {v : Value} {t : TypeId} (h : One w k v t) : k < w.heap.size := (Array.getElem?_eq_some_iff.1 h).1
theorem One.trn {w w' : World} {T : Nat → Prop} {k : Nat} {v : Value} {t : TypeId} (h : One w k v t) (ht : Trn T w w') (hk : ¬ T k) : One w' k v t := (ht.block k h.lt hk).trans h
theorem trn_set (w : World) (j : Nat) (v : Value) : Trn (fun k => k = j) w (w.setCell ⟨j, 0, none⟩ v) := (Trn.refl _ _).setCell _ (fun _ => rfl)
theorem own_trn {w w' : World} {T : Nat → Prop} {B : Nat} {e : TypeId} {v : Value} {l : List UInt8} (h : Own w B e v l) (ht : Trn T w w') (hk : ∀ k, v.ownBlock = some k → ¬ T k) : Own w' B e v l :=
  ownsRow_sameB h (fun k e' => by
    obtain ⟨c2, h2⟩ := ownsRow_block (h.lower (Nat.zero_le _)) e'
    exact ht.block k (Array.getElem?_eq_some_iff.1 h2).1 (hk k e'))
theorem own_len {w : World} {B : Nat} {e : TypeId} {A : Option Addr} {n c : Nat} {l : List UInt8} (h : Own w B e (.slice A n c) l) : l.length = n := by
  rcases h.2 with ⟨e, e0⟩ | ⟨g', cap, cur, e, _⟩
  · injection e with _ e _; omega
  · injection e with _ e _; exact e.symm
theorem Dsk.okS {w : World} {S : Nat → Prop} {g : Nat} {s : St} (h : Dsk w S g s) : OkSt s := by
  obtain ⟨_, _, _, _, _, _, _, _, ok⟩ := h
  exact ok
theorem splice_next {B row : List UInt8} {i : Nat} (hB : B.length = 4096) (hr : row.length = 512) (hi : i < 8) : (splice B (512 * i) row).take (512 * (i + 1)) = B.take (512 * i) ++ row := by
  unfold splice
  rw [← List.append_assoc (B.take (512 * i))]
  have : (B.take (512 * i) ++ row).length = 512 * (i + 1) := by rw [List.length_append, List.length_take, hr]; omega
  exact List.take_left' this
set_option maxRecDepth 100000 in
set_option maxHeartbeats 2000000 in
/-- The closure that Load hands to through. -/
theorem load1_is (w : World) (S : Nat → Prop) (d db bb rb a pt : Nat) (s : St) (B : List UInt8) (h : Dsk w S d s) (hd : One w db (.pointer (some ⟨d, 0, none⟩)) 26) (hb : One w bb (.slice (some ⟨rb, 0, none⟩) 4096 4096) 29)
    (ho : Own w 0 5 (.slice (some ⟨rb, 0, none⟩) 4096 4096) B) (hrb : ¬ S rb) (hbb : ¬ S bb) (ha : a < secs s) (hpt : pt + 512 ≤ 4096) :
    Calls Try.prog 47 #[.int .i64 (a : Int), .int .i64 (pt : Int), .pointer (some ⟨db, 0, none⟩), .pointer (some ⟨bb, 0, none⟩)] w
      fun e w' => e = .returned (.int .i64 (((readR s (a : Int)).2.1 : Nat) : Int)) ∧ Dsk w' S d (readR s (a : Int)).2.2 ∧ Own w' 0 5 (.slice (some ⟨rb, 0, none⟩) 4096 4096) (splice B pt (readR s (a : Int)).1) ∧ Trn (fun k => S k ∨ k = rb) w w' := by
  have c1 := hd.cell
  have HB := Lib.hid hb
  have HO := Lib.hid ho
  have HR := Lib.hid (read_is w S d s (a : Int) h)
  have HNR := Lib.hid hrb
  have HNB := Lib.hid hbb
  have HRL := Lib.hid (readR_in h.okS ha)
  have HDL := Lib.hid h.lt
  have sl : ∀ W, (Instr.slice 29 (.slice (some ⟨rb, 0, none⟩) 4096 4096) (some (.int .i64 (pt : Int))) none none).run Try.prog W = .ok (.slice (some ⟨rb, pt, none⟩) (4096 - pt) (4096 - pt)) W := pgslice1 rb pt (by omega)
  clear h hd hb ho hrb hbb
  generalize readR s (a : Int) = r at *
  go_enter Try.func47, Try.ntmps47
  go_wp2_with fail
  refine HR.out.mono ?_
  rintro e w1 ⟨v1, rfl, hown1, hdk1, ht1⟩
  obtain ⟨A1, n1, k1, rfl, N1, hnc1, hcm1⟩ := hown1.byt.form
  have ho1 := own_trn HO.out ht1 (fun k e => by simp [Value.ownBlock] at e; exact e ▸ HNR.out)
  have hle : r.1.length ≤ 4096 - pt := by
    by_cases e0 : r.2.1 = 0
    · rw [HRL.out.1 e0]; omega
    · rw [HRL.out.2.1 e0]; simp
  obtain ⟨w2, hrun, hown2, ht2, hs2⟩ := run_copyB (w := w1) 3 rb pt 4096 4096 (4096 - pt) (4096 - pt) B r.1 (.slice A1 n1 k1) ho1 hown1.byt hle (by omega)
  have cb := (HB.out.trn ht1 HNB.out).cell
  have HD2 := Lib.hid (hdk1.trn ht2 (fun k hk e => HNR.out (e ▸ hk)))
  have HO2 := Lib.hid hown2
  have HT2 := Lib.hid ((ht1.wide (fun _ h => .inl h) : Trn (fun k => S k ∨ k = rb) w w1).trans ht2 (fun i _ e => .inr e))
  clear hown1 hdk1 ht1 ho1 hown2 ht2 hs2 hle
  go_wp2_with fail
  go_ret
  exact ⟨rfl, HD2.out, HO2.out, HT2.out⟩
theorem enterL1 : ∀ args W, (callFunc 47 args).run Try.prog W = .ok (.enter 47 args) W := fun _ _ => rfl
/-- Load under way: i sectors are there. -/
structure LoadSt (w0 : World) (S : Nat → Prop) (d db bb rb n : Nat) (s : St) (i : Nat) (W : World) (s' : St) (B : List UInt8) : Prop where
  dsk : Dsk W S d s'
  own : Own W 0 5 (.slice (some ⟨rb, 0, none⟩) 4096 4096) B
  cd : One W db (.pointer (some ⟨d, 0, none⟩)) 26
  cb : One W bb (.slice (some ⟨rb, 0, none⟩) 4096 4096) 29
  sec : secs s' = secs s
  rest : loadI n 8 s [] = loadI n (8 - i) s' (B.take (512 * i))
  trn : Trn S w0 W
def LoadJ (w0 : World) (S : Nat → Prop) (d n : Nat) (s : St) (er : Nat) (W : World) : Prop := ∃ s', loadI n 8 s [] = ([], er, s') ∧ Dsk W S d s' ∧ Trn S w0 W
theorem LoadSt.set {w0 W : World} {S : Nat → Prop} {d db bb rb n i j : Nat} {s s' : St} {B : List UInt8} {v : Value} (h : LoadSt w0 S d db bb rb n s i W s' B) (hj : w0.heap.size ≤ j) (hS : ¬ S j) (h1 : j ≠ db) (h2 : j ≠ bb) (h3 : j ≠ rb) :
    LoadSt w0 S d db bb rb n s i (W.setCell ⟨j, 0, none⟩ v) s' B :=
  ⟨h.dsk.trn (trn_set W j v) (fun k hk e => hS (e ▸ hk)), own_trn h.own (trn_set W j v) (fun k e => by simp [Value.ownBlock] at e; omega), h.cd.trn (trn_set W j v) (Ne.symm h1), h.cb.trn (trn_set W j v) (Ne.symm h2), h.sec, h.rest, h.trn.setCell _ (fun hlt => by omega)⟩
theorem load_through (w0 w : World) (S : Nat → Prop) (d db bb rb n : Nat) (s : St) (hn : n < secs s / 8) (hs8 : secs s ≤ 32768) (h : LoadSt w0 S d db bb rb n s 0 w s (zsB 4096)) (hw : w0.heap.size ≤ w.heap.size) (hS : ∀ k, S k → k < w0.heap.size) (hdb : w0.heap.size ≤ db ∧ db < w.heap.size) (hbb : w0.heap.size ≤ bb ∧ bb < w.heap.size) (hrb : w0.heap.size ≤ rb ∧ rb < w.heap.size) :
    Calls Try.prog 46 #[.int .i64 (n : Int), .func (.func 47) #[] #[.pointer (some ⟨db, 0, none⟩), .pointer (some ⟨bb, 0, none⟩)]] w (ThPost (fun i W => ∃ s' B, LoadSt w0 S d db bb rb n s i W s' B) (LoadJ w0 S d n s)) := by
  refine through_any w n _ _ _ _ (by omega) enterL1 ?_ ?_ ?_ ?_
  · intro W hb _
    have ht : Trn (fun _ => False) w W := Trn.of_below hb
    exact ⟨s, zsB 4096, h.dsk.below hb, own_trn h.own ht (fun _ _ f => f), h.cd.trn ht (fun f => f), h.cb.trn ht (fun f => f), h.sec, h.rest, h.trn.trans ht (fun _ _ f => f.elim)⟩
  · rintro i W hi ⟨s', B, hst⟩ hm1 hm2
    have hok := hst.dsk.okS
    have ha : 8 * n + i < secs s' := by rw [hst.sec]; omega
    have hBl := own_len hst.own
    have hri := readR_in hok ha
    have hnx := loadI_next (n := n) hi s' (B.take (512 * i))
    refine (load1_is W S d db bb rb (8 * n + i) (512 * i) s' B hst.dsk hst.cd hst.cb hst.own (fun h => by have := hS _ h; omega) (fun h => by have := hS _ h; omega) ha (by omega)).mono ?_
    rintro e w' ⟨rfl, hdk, hown, ht⟩
    have nk : ∀ k, w0.heap.size ≤ k → k ≠ rb → ¬ (S k ∨ k = rb) := fun k hk hne h => h.elim (fun h => by have := hS _ h; omega) hne
    have htr : Trn S w0 w' := hst.trn.trans ht (fun k hk h => h.elim id (fun e => by omega))
    refine ⟨_, rfl, by have := hri.2.2.1; omega, (ht.block _ (Array.getElem?_eq_some_iff.1 hm1).1 (nk _ hw (by omega))).trans hm1, (ht.block _ (Array.getElem?_eq_some_iff.1 hm2).1 (nk _ (by omega) (by omega))).trans hm2, fun e0 => ?_, fun e0 => ?_⟩
    · refine ⟨_, _, hdk, hown, hst.cd.trn ht (nk _ hdb.1 ?_), hst.cb.trn ht (nk _ hbb.1 ?_), hri.2.2.2.1.trans hst.sec, ?_, htr⟩
      · intro e
        have h1 := hst.cd
        obtain ⟨c2, h2⟩ := ownsRow_block hst.own (k := rb) rfl
        exact tag_ne h1 h2 (by decide) e
      · intro e
        have h1 := hst.cb
        obtain ⟨c2, h2⟩ := ownsRow_block hst.own (k := rb) rfl
        exact tag_ne h1 h2 (by decide) e
      · rw [hst.rest, hnx, if_pos e0, splice_next hBl (hri.1 e0) hi]
    · refine ⟨_, ?_, hdk, htr⟩
      rw [hst.rest, hnx, if_neg e0]
  · rintro i W j v ⟨s', B, hst⟩ hj
    refine ⟨s', B, hst.set (by omega) (fun h => by have := hS _ h; omega) (by omega) (by omega) (by omega)⟩
  · rintro i W j v ⟨s', h1, h2, h3⟩ hj
    exact ⟨s', h1, h2.trn (trn_set W j v) (fun k hk e => by have := hS _ hk; omega), h3.setCell _ (fun hlt => by omega)⟩
theorem own_up {w : World} {B g n c : Nat} {e : TypeId} {l : List UInt8} (h : Own w 0 e (.slice (some ⟨g, 0, none⟩) n c) l) (hg : B ≤ g) : Own w B e (.slice (some ⟨g, 0, none⟩) n c) l := by
  refine ⟨h.1, ?_⟩
  rcases h.2 with ⟨e, _⟩ | ⟨g', cap, cur, e, hb, hr⟩
  · cases e
  · simp at e
    obtain ⟨rfl, _⟩ := e
    exact .inr ⟨_, cap, cur, by simp [*], hg, hr⟩
theorem of_box {w : World} {v : Value} {t : TypeId} : One (w.alloc (.cells #[v] t)) w.heap.size v t := heap_alloc_new w _
set_option maxRecDepth 100000 in
set_option maxHeartbeats 2000000 in
theorem load_is (w : World) (S : Nat → Prop) (d : Nat) (s : St) (x : Int) (h : Dsk w S d s) :
    Calls Try.prog 39 #[.pointer (some ⟨d, 0, none⟩), .int .i64 x] w (Red w S d (loadP s x)) := by
  have hmf : ∀ (fn : Fn) (first cap : Array Value) (w : World), (Instr.makeFunc fn first cap).run Try.prog w = .ok (.func fn first cap) w := fun _ _ _ _ => rfl
  obtain ⟨i0, hi0, hz0, hz1, hz2⟩ := info_parts uinfo
  have H := Lib.hid h
  obtain ⟨w1, hw1⟩ : ∃ w1, w.alloc (.cells #[.pointer (some ⟨d, 0, none⟩)] 26) = w1 := ⟨_, rfl⟩
  have hb1 : Below w.heap.size w w1 := hw1 ▸ below_new w _
  have hs1 : w1.heap.size = w.heap.size + 1 := by rw [← hw1]; simp
  have o1 : One w1 w.heap.size (.pointer (some ⟨d, 0, none⟩)) 26 := hw1 ▸ of_box
  have c1 := o1.cell
  have HM := Lib.hid (missing_is w1 S d s x (h.below hb1))
  have HW1 := Lib.hid hw1
  have HB1 := Lib.hid hb1
  have HS1 := Lib.hid hs1
  have HO1 := Lib.hid o1
  clear h hb1 hs1 o1 hw1
  by_cases hx : 0 ≤ x ∧ x < ((secs s / 8 : Nat) : Int)
  · rw [if_pos hx] at HM
    obtain ⟨n, rfl⟩ := Int.eq_ofNat_of_zero_le hx.1
    have hn : n < secs s / 8 := by omega
    have hp : loadP s (n : Int) = loadI n 8 s [] := by unfold loadP; rw [if_pos hx, Int.toNat_natCast]
    rw [hp]
    have HN := Lib.hid hn
    clear hx hn hp
    generalize hQ : loadI n 8 s [] = r
    have HQ := Lib.hid hQ
    clear hQ
    go_enter Try.func39, Try.ntmps39
    go_wp2_with fail
    rw [HW1.out]
    go_wp2_with fail
    refine HM.out.mono ?_
    rintro e w2 ⟨rfl, rfl⟩
    go_wp2_with (at_make; refine wpList_make_full _ rfl _ _ 29 rfl w1.heap.size 5 i0 _ 1 Try.underlying29 hi0 hz0 hz1 _ _ _ _ 4096 rfl rfl rfl rfl (by rw [hz2]; omega) (by simp only [maxLen]; omega) (Nat.le_refl _) ?_; intro w3 hown3 hg3)
    have hb3 := below_none hg3
    have ho3 : Own w3 w1.heap.size 5 (.slice (some ⟨w1.heap.size, 0, none⟩) 4096 4096) (zsB 4096) := own_zeros hown3
    obtain ⟨w4, hw4⟩ : ∃ w4, w3.alloc (.cells #[.slice (some ⟨w1.heap.size, 0, none⟩) 4096 4096] 29) = w4 := ⟨_, rfl⟩
    have hb4 : Below w3.heap.size w3 w4 := hw4 ▸ below_new w3 _
    have hs4 : w4.heap.size = w3.heap.size + 1 := by rw [← hw4]; simp
    have o4 : One w4 w3.heap.size (.slice (some ⟨w1.heap.size, 0, none⟩) 4096 4096) 29 := hw4 ▸ of_box
    have hb14 : Below w1.heap.size w1 w4 := hb3.trans (hb4.mono hb3.size)
    have hb04 : Below w.heap.size w w4 := HB1.out.trans (hb14.mono HB1.out.size)
    have own4 : Own w4 w1.heap.size 5 (.slice (some ⟨w1.heap.size, 0, none⟩) 4096 4096) (zsB 4096) := own_trn ho3 (Trn.of_below hb4 : Trn (fun _ => False) w3 w4) (fun _ _ f => f)
    have hgt : w1.heap.size < w3.heap.size := by
      obtain ⟨c2, h2⟩ := ownsRow_block (ho3.lower (Nat.zero_le _)) (k := w1.heap.size) rfl
      exact (Array.getElem?_eq_some_iff.1 h2).1
    have cd4 : One w4 w.heap.size (.pointer (some ⟨d, 0, none⟩)) 26 := HO1.out.trn (Trn.of_below hb14 : Trn (fun _ => False) w1 w4) (fun f => f)
    have hst : LoadSt w S d w.heap.size w3.heap.size w1.heap.size n s 0 w4 s (zsB 4096) := ⟨H.out.below hb04, own4.lower (Nat.zero_le _), cd4, o4, rfl, by simp, Trn.of_below hb04⟩
    have hs1 := HS1.out
    have HT := Lib.hid (load_through w w4 S d _ _ _ n s HN.out H.out.ok.few hst hb04.size H.out.lt ⟨Nat.le_refl _, by omega⟩ ⟨by omega, by omega⟩ ⟨by omega, by omega⟩)
    have HSZ := Lib.hid hs1
    clear hs1 hst cd4 hgt own4 hb04 hb14 o4 hs4 hb4 ho3 hb3 hown3 hg3
    rw [hw4]
    clear hw4 HW1
    refine HT.out.mono ?_
    rintro e w5 (⟨rfl, s', B, hst5⟩ | ⟨er, her, rfl, s', hl, hdk, ht⟩)
    · have cb := hst5.cb.cell
      have HST := Lib.hid hst5
      clear hst5
      go_wp2_with fail
      go_ret2
      rw [← HQ.out]
      have hrest := HST.out.rest
      rw [Nat.sub_self, loadI, List.take_of_length_le (by have := own_len HST.out.own; omega)] at hrest
      rw [hrest]
      exact ⟨_, rfl, own_up HST.out.own (by have := HSZ.out; omega), HST.out.dsk, HST.out.trn⟩
    · have hne : ((er : Int) != 0) = true := by simp only [bne, beq_eq_false_iff_ne, Bool.not_eq_true', ne_eq]; omega
      have HL := Lib.hid hl
      have HD := Lib.hid hdk
      have HTR := Lib.hid ht
      clear hl hdk ht her
      go_wp2_with fail
      go_ret2
      rw [← HQ.out, HL.out]
      exact ⟨_, rfl, World.ownsRow_nil _ _ _ 1, HD.out, HTR.out⟩
  · rw [if_neg hx] at HM
    have hp : loadP s x = ([], 2, s) := by unfold loadP; rw [if_neg hx]
    rw [hp]
    clear hx hp
    generalize hQ : (([], 2, s) : List UInt8 × Nat × St) = r
    have HQ := Lib.hid hQ
    clear hQ
    go_enter Try.func39, Try.ntmps39
    go_wp2_with fail
    rw [HW1.out]
    go_wp2_with fail
    refine HM.out.mono ?_
    rintro e w2 ⟨rfl, rfl⟩
    go_wp2_with fail
    go_ret2
    rw [← HQ.out]
    exact ⟨_, rfl, World.ownsRow_nil _ _ _ 1, H.out.below HB1.out, Trn.of_below HB1.out⟩
theorem load_nil (w : World) (x : Int) : Calls Try.prog 39 #[.pointer none, .int .i64 x] w fun e w' => e = .returned (.tuple #[.slice none 0 0, .int .i64 1]) ∧ Below w.heap.size w w' := by
  obtain ⟨w1, hw1⟩ : ∃ w1, w.alloc (.cells #[.pointer none] 26) = w1 := ⟨_, rfl⟩
  have c1 := (show One w1 w.heap.size (.pointer none) 26 from hw1 ▸ of_box).cell
  have HB1 : Hid (Below w.heap.size w w1) := hw1 ▸ below_new w _
  have HW1 := Lib.hid hw1
  clear hw1
  go_enter Try.func39, Try.ntmps39
  go_wp2_with fail
  rw [HW1.out]
  go_wp2_with fail
  refine (missing_nil w1 x).mono ?_
  rintro e w2 ⟨rfl, rfl⟩
  go_wp2_with fail
  go_ret2
  exact ⟨rfl, HB1.out⟩
end Go.Proofs.Ytmfcckmcbmlhmaa
