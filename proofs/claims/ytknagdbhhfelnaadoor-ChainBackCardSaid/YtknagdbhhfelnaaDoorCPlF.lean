/-
  Package pool: Put, Unpin, Evict, Drop by their contracts. Conditions: none but that the pool lies there, the bytes apart from it.
-/
import Derived.Test.YtknagdbhhfelnaaDoorCPlE
namespace Go.Proofs.YtknagdbhhfelnaaDoor
open Go.RowKit Go.Maps
set_option maxRecDepth 100000

/-- A frame has a page's bytes that were put. -/
def laidQ (P : PSt) (i : Nat) (x : Int) (b : List UInt8) : PSt := ⟨P.fr.set i { P.fr.getD i zeroF with is := true, page := x, dirty := true, used := true, b := b }, P.hand, P.s⟩
def putQ (P : PSt) (x : Int) (b : List UInt8) : Nat × PSt :=
  if errA P.s x = 0 then
    if b.length = 4096 then
      if findF P.fr x < P.fr.length then (0, laidQ P (findF P.fr x) x b)
      else if (roomQ P).1 = 0 then (0, laidQ (roomQ P).2.2 (roomQ P).2.1 x b) else ((roomQ P).1, (roomQ P).2.2)
    else (2, P)
  else (errA P.s x, P)
def unpinQ (P : PSt) (x : Int) : Nat × PSt :=
  if findF P.fr x < P.fr.length then
    if (P.fr.getD (findF P.fr x) zeroF).pins = 0 then (6, P) else (0, pinsQ P (findF P.fr x) ((P.fr.getD (findF P.fr x) zeroF).pins - 1))
  else (6, P)
def evictQ (P : PSt) (x : Int) : Nat × PSt :=
  if 0 ≤ x ∧ x < (P.fr.length : Int) then
    if (P.fr.getD x.toNat zeroF).is = true ∧ (P.fr.getD x.toNat zeroF).pins = 0 then vacQ P x.toNat else (6, P)
  else (2, P)
def dropQ (P : PSt) (x : Int) : Nat × PSt :=
  if errA P.s x = 0 then
    if findF P.fr x < P.fr.length then (0, ⟨P.fr.set (findF P.fr x) zeroF, P.hand, P.s⟩) else (0, P)
  else (errA P.s x, P)
section
variable {w w' : World} {S T : Nat → Prop} {p d fb hand : Nat} {l : List (Fr × Value)} {s : St}
section
variable {ops : Array Oper} {rest : List Oper} {o : Oper} {a : Act} {Q : Exit → Act → World → Prop}
/-- The operation that writes one of a frame's cells (bool). -/
theorem wpList_putB {y0 : Fr × Value} (i j off : Nat) (h : PAtL w S T p d fb (l.set i y0) hand s) (hoff : off = i * 6 + j) (hi : i < l.length) (hj : j < 6) (bv : Bool) (y : Fr × Value) (hfy : (frL y0.1 y0.2).set j (.bool bv) = frL y.1 y.2) (hb : Byt w y.2 y.1.b) (hown : ∀ k, y.2.ownBlock = some k → T k ∧ ¬ S k ∧ k ≠ p ∧ k ≠ fb)
    (hgd : o.guard = none) (hd : o.dst = none) (a1 a2 : Operand) (ho : o.op = .store 4 a1 a2) (hx : a.eval a1 = .pointer (some ⟨fb, off, none⟩)) (hy : a.eval a2 = .bool bv)
    (hK : ∀ w', PAtL w' S T p d fb (l.set i y) hand s → Trn (fun k => k = fb) w w' → Hid (w'.heap.size = w.heap.size) → wpList Tryd.prog ops Q rest a w') : wpList Tryd.prog ops Q (o :: rest) a w :=
  wpList_plain hgd fun K hk => by
    subst hoff
    have hi' : i < (l.set i y0).length := by rw [List.length_set]; exact hi
    have hpt := h.put hi' hj (.bool bv) y (by rw [List.getElem_set_self]; exact hfy) hb hown
    rw [List.set_set] at hpt
    have hk' := hk _ _ (hK _ hpt ((Trn.refl _ _).setCell _ (fun _ => rfl)) (setCell_size _ _ _))
    obtain ⟨dst, op, type, pos, after, guard⟩ := o
    simp only at ho hd
    subst ho hd
    have c : ∃ u, w.cell? ⟨fb, i * 6 + j, none⟩ = some u := by
      rw [cell_of_row _ _ _ _ _ _ h.blk]
      exact ⟨(flat (l.set i y0))[i * 6 + j]'(by rw [flat_len]; omega), by simp⟩
    obtain ⟨u, c⟩ := c
    have f := h.frozen (i * 6 + j)
    clear h hK hk hfy hb hown hpt
    unfold Oper.wp
    generalize a.eval = ρ at *
    go_simp
    exact hk'
/-- The operation that writes one of a frame's cells (int). -/
theorem wpList_putI {y0 : Fr × Value} (i j off : Nat) (h : PAtL w S T p d fb (l.set i y0) hand s) (hoff : off = i * 6 + j) (hi : i < l.length) (hj : j < 6) (x : Int) (y : Fr × Value) (hfy : (frL y0.1 y0.2).set j (.int .i64 x) = frL y.1 y.2) (hb : Byt w y.2 y.1.b) (hown : ∀ k, y.2.ownBlock = some k → T k ∧ ¬ S k ∧ k ≠ p ∧ k ≠ fb)
    (hgd : o.guard = none) (hd : o.dst = none) (a1 a2 : Operand) (ho : o.op = .store 3 a1 a2) (hx : a.eval a1 = .pointer (some ⟨fb, off, none⟩)) (hy : a.eval a2 = .int .i64 x)
    (hK : ∀ w', PAtL w' S T p d fb (l.set i y) hand s → Trn (fun k => k = fb) w w' → Hid (w'.heap.size = w.heap.size) → wpList Tryd.prog ops Q rest a w') : wpList Tryd.prog ops Q (o :: rest) a w :=
  wpList_plain hgd fun K hk => by
    subst hoff
    have hi' : i < (l.set i y0).length := by rw [List.length_set]; exact hi
    have hpt := h.put hi' hj (.int .i64 x) y (by rw [List.getElem_set_self]; exact hfy) hb hown
    rw [List.set_set] at hpt
    have hk' := hk _ _ (hK _ hpt ((Trn.refl _ _).setCell _ (fun _ => rfl)) (setCell_size _ _ _))
    obtain ⟨dst, op, type, pos, after, guard⟩ := o
    simp only at ho hd
    subst ho hd
    have c : ∃ u, w.cell? ⟨fb, i * 6 + j, none⟩ = some u := by
      rw [cell_of_row _ _ _ _ _ _ h.blk]
      exact ⟨(flat (l.set i y0))[i * 6 + j]'(by rw [flat_len]; omega), by simp⟩
    obtain ⟨u, c⟩ := c
    have f := h.frozen (i * 6 + j)
    clear h hK hk hfy hb hown hpt
    unfold Oper.wp
    generalize a.eval = ρ at *
    go_simp
    exact hk'
/-- The operation that writes one of a frame's cells ([]uint8). -/
theorem wpList_putS {y0 : Fr × Value} (i j off : Nat) (h : PAtL w S T p d fb (l.set i y0) hand s) (hoff : off = i * 6 + j) (hi : i < l.length) (hj : j < 6) (A : Option Addr) (n c : Nat) (y : Fr × Value) (hfy : (frL y0.1 y0.2).set j (.slice A n c) = frL y.1 y.2) (hb : Byt w y.2 y.1.b) (hown : ∀ k, y.2.ownBlock = some k → T k ∧ ¬ S k ∧ k ≠ p ∧ k ≠ fb)
    (hgd : o.guard = none) (hd : o.dst = none) (a1 a2 : Operand) (ho : o.op = .store 27 a1 a2) (hx : a.eval a1 = .pointer (some ⟨fb, off, none⟩)) (hy : a.eval a2 = .slice A n c)
    (hK : ∀ w', PAtL w' S T p d fb (l.set i y) hand s → Trn (fun k => k = fb) w w' → Hid (w'.heap.size = w.heap.size) → wpList Tryd.prog ops Q rest a w') : wpList Tryd.prog ops Q (o :: rest) a w :=
  wpList_plain hgd fun K hk => by
    subst hoff
    have hi' : i < (l.set i y0).length := by rw [List.length_set]; exact hi
    have hpt := h.put hi' hj (.slice A n c) y (by rw [List.getElem_set_self]; exact hfy) hb hown
    rw [List.set_set] at hpt
    have hk' := hk _ _ (hK _ hpt ((Trn.refl _ _).setCell _ (fun _ => rfl)) (setCell_size _ _ _))
    obtain ⟨dst, op, type, pos, after, guard⟩ := o
    simp only at ho hd
    subst ho hd
    have c : ∃ u, w.cell? ⟨fb, i * 6 + j, none⟩ = some u := by
      rw [cell_of_row _ _ _ _ _ _ h.blk]
      exact ⟨(flat (l.set i y0))[i * 6 + j]'(by rw [flat_len]; omega), by simp⟩
    obtain ⟨u, c⟩ := c
    have f := h.frozen (i * 6 + j)
    clear h hK hk hfy hb hown hpt
    unfold Oper.wp
    generalize a.eval = ρ at *
    go_simp
    exact hk'

end
set_option maxHeartbeats 2000000 in
theorem pput_is {P : PSt} (h : PAt w T p d fb P) (x : Int) (v : Value) (b : List UInt8) (hv : Byt w v b) (hn : ∀ k, v.ownBlock = some k → ¬ T k ∧ k < w.heap.size) :
    Calls Tryd.prog 18 #[.pointer (some ⟨p, 0, none⟩), .int .i64 x, v] w (POut w T p d fb (putQ P x b)) := by
  have HE := Lib.hid (h.err x)
  obtain ⟨A, m, c, rfl, M, hmc, hcm⟩ := hv.form
  by_cases he : errA P.s x = 0
  · rw [he] at HE
    by_cases hl : b.length = 4096
    · obtain rfl : m = 4096 := by rw [M.out]; exact hl
      clear M
      have HL := Lib.hid hl
      have HFD := Lib.hid (h.find x)
      have HLT := Lib.hid h.lt
      by_cases hfd : findF P.fr x < P.fr.length
      · rw [if_pos hfd] at HFD
        have hq : putQ P x b = (0, laidQ P (findF P.fr x) x b) := by unfold putQ; rw [if_pos he, if_pos hl, if_pos hfd]
        rw [hq]
        have HV := Lib.hid hv
        have HN0 := Lib.hid hn
        have HTW : Hid (Trn T w w) := Trn.refl _ _
        have h' := h.s0
        clear h
        obtain ⟨S1, l1, h, hf⟩ := h'
        have HN : Hid (∀ k, (Value.slice A 4096 c).ownBlock = some k → ¬ k = fb) := fun k hk e => (HN0.out k hk).1 (e ▸ h.tf.elim id (fun h => by omega))
        have HIL : Hid (findF P.fr x < l1.length) := by rw [Hid, ← List.length_map (f := fun y : Fr × Value => y.1), hf]; exact hfd
        have H1 := Lib.hid h
        have HF1 := Lib.hid hf
        clear h hf hq hfd hl hv hn he hmc hcm
        generalize findF P.fr x = i at *
        generalize hP1 : P = P1 at *
        go_enter Tryd.func18, Tryd.ntmps18
        go_wp2_with fail
        refine HE.out.mono ?_
        rintro e w1 ⟨rfl, rfl⟩
        go_wp2_with fail
        refine HFD.out.mono ?_
        rintro e w1 ⟨rfl, rfl⟩
        have hil := HIL.out
        have HI : Hid (PAtL w S1 (more T w w) p d fb (l1.set i (l1[i].1, l1[i].2)) P1.hand P1.s) := by rw [Hid, show (l1[i].1, l1[i].2) = l1[i] from rfl, List.set_getElem_self]; exact H1.out
        have HBI := Lib.hid (H1.out.mem hil).1
        have HNI := Lib.hid (H1.out.mem hil).2
        have HLQ : Hid (∀ b, (l1.map (·.1)).set i { l1[i].1 with is := true, page := x, dirty := true, used := true, b := b } = (laidQ P1 i x b).fr) := fun b => by rw [← H1.out.get HF1.out hil, HF1.out]; rfl
        have HNF : Hid (∀ k, l1[i].2.ownBlock = some k → ¬ k = fb) := fun k hk => (HNI.out k hk).2.2.2
        generalize l1[i].1 = fi at *
        generalize l1[i].2 = vi at *
        clear hil
        go_wp2_with (first | (refine wpList_putB i 0 _ HI.out rfl HIL.out (by omega) true ({ fi with is := true }, vi) rfl HBI.out HNI.out rfl rfl _ _ rfl rfl rfl ?_; intro wa ha ta sa) | (refine wpList_putI i 1 _ ha rfl HIL.out (by omega) x ({ { fi with is := true } with page := x }, vi) rfl (HBI.out.trn ta HNF.out) HNI.out rfl rfl _ _ rfl rfl rfl ?_; intro wb hb tb sb) | (refine wpList_putB i 3 _ hb rfl HIL.out (by omega) true ({ { { fi with is := true } with page := x } with dirty := true }, vi) rfl ((HBI.out.trn ta HNF.out).trn tb HNF.out) HNI.out rfl rfl _ _ rfl rfl rfl ?_; intro wc hc tc sc) | (refine wpList_putB i 4 _ hc rfl HIL.out (by omega) true ({ { { { fi with is := true } with page := x } with dirty := true } with used := true }, vi) rfl (((HBI.out.trn ta HNF.out).trn tb HNF.out).trn tc HNF.out) HNI.out rfl rfl _ _ rfl rfl rfl ?_; intro wd hd td sd))
        have HD := Lib.hid hd
        have HTD : Hid (Trn (fun k => k = fb) w wd) := ((ta.trans tb (fun _ _ h => h)).trans tc (fun _ _ h => h)).trans td (fun _ _ h => h)
        clear ha hb hc hd ta tb tc td sa sb sc sd
        refine (cloneb_any wd _ b (HV.out.trn HTD.out HN.out) (by have := HL.out; omega)).mono ?_
        rintro e we ⟨v2, rfl, hown, hbe⟩
        obtain ⟨A2, n2, c2, rfl, N2, hnc2, hcm2⟩ := hown.byt.form
        have HOW := Lib.hid hown
        have HBE := Lib.hid hbe
        clear hown hbe N2 hnc2 hcm2
        have hs0 := HTD.out.size
        have hs1 := HBE.out.size
        have hs2 := HTW.out.size
        have HE : Hid (PAtL we S1 (more T w we) p d fb (l1.set i ({ { { { fi with is := true } with page := x } with dirty := true } with used := true }, vi)) P1.hand P1.s) := (HD.out.below HBE.out).up HLT.out (Nat.le_trans hs2 hs0) (Nat.le_trans hs0 hs1) hs1
        have HB2 : Hid (∀ k, (Value.slice A2 n2 c2).ownBlock = some k → more T w we k ∧ ¬ S1 k ∧ k ≠ p ∧ k ≠ fb) := fun k hk => by
          obtain ⟨h1, h2⟩ := HOW.out.lt k hk
          have e1 := H1.out.lt p H1.out.tp
          have e2 := H1.out.lt fb H1.out.tf
          exact ⟨.inr ⟨by omega, h2⟩, fun hs => by have := H1.out.lt k (H1.out.sT k hs); omega, by omega, by omega⟩
        clear hs0 hs1 hs2
        go_wp2_with (refine wpList_putS i 5 _ HE.out rfl HIL.out (by omega) A2 n2 c2 ({ { { { { fi with is := true } with page := x } with dirty := true } with used := true } with b := b }, .slice A2 n2 c2) rfl HOW.out.byt HB2.out rfl rfl _ _ rfl rfl rfl ?_; intro wf hf tf sf)
        go_ret
        have hs0 := HTD.out.size
        have hs1 := HBE.out.size
        have hs2 := HTW.out.size
        refine ⟨rfl, ⟨S1, _, by rw [more_size sf.out]; exact hf, by rw [List.map_set]; exact HLQ.out b⟩, ?_⟩
        have htf : ∀ k, k < w.heap.size → k = fb → T k := fun k hk e => e ▸ H1.out.tf.elim id (fun h => by subst e; omega)
        exact ((HTW.out.trans HTD.out htf).trans (Trn.of_below HBE.out (S := fun _ => False)) (fun _ _ f => f.elim)).trans tf htf
      · rw [if_neg hfd] at HFD
        have HRM := Lib.hid (proom_is h)
        have HRL : Hid ((roomQ P).2.1 < (roomQ P).2.2.fr.length) := by rw [Hid, roomQ_len]; exact roomQ_lt h.len.2
        have hq : putQ P x b = if (roomQ P).1 = 0 then (0, laidQ (roomQ P).2.2 (roomQ P).2.1 x b) else ((roomQ P).1, (roomQ P).2.2) := by unfold putQ; rw [if_pos he, if_pos hl, if_neg hfd]
        rw [hq]
        clear hq he hfd
        generalize roomQ P = r at *
        by_cases hr : r.1 = 0
        · rw [if_pos hr]
          obtain ⟨er, i, P1⟩ := r
          simp only at hr HRL ⊢
          subst hr
          have HN0 := Lib.hid hn
          have HV0 := Lib.hid hv
          clear hv hn h hl hmc hcm
          go_enter Tryd.func18, Tryd.ntmps18
          go_wp2_with fail
          refine HE.out.mono ?_
          rintro e w1 ⟨rfl, rfl⟩
          go_wp2_with fail
          refine HFD.out.mono ?_
          rintro e w1 ⟨rfl, rfl⟩
          go_wp2_with fail
          refine HRM.out.mono ?_
          rintro e w1 ⟨rfl, hp1, ht1⟩
          obtain ⟨S1, l1, h, hf⟩ := hp1
          have HIL : Hid (i < l1.length) := by rw [Hid, ← List.length_map (f := fun y : Fr × Value => y.1), hf]; exact HRL.out
          have H1 := Lib.hid h
          have HF1 := Lib.hid hf
          have HTW := Lib.hid ht1
          have HV := Lib.hid (HV0.out.trn ht1 (fun k hk => (HN0.out k hk).1))
          have HN : Hid (∀ k, (Value.slice A 4096 c).ownBlock = some k → ¬ k = fb) := fun k hk e => h.tf.elim (fun h => (HN0.out k hk).1 (e ▸ h)) (fun h => by have := (HN0.out k hk).2; omega)
          clear h hf ht1
          have hil := HIL.out
          have HI : Hid (PAtL w1 S1 (more T w w1) p d fb (l1.set i (l1[i].1, l1[i].2)) P1.hand P1.s) := by rw [Hid, show (l1[i].1, l1[i].2) = l1[i] from rfl, List.set_getElem_self]; exact H1.out
          have HBI := Lib.hid (H1.out.mem hil).1
          have HNI := Lib.hid (H1.out.mem hil).2
          have HLQ : Hid (∀ b, (l1.map (·.1)).set i { l1[i].1 with is := true, page := x, dirty := true, used := true, b := b } = (laidQ P1 i x b).fr) := fun b => by rw [← H1.out.get HF1.out hil, HF1.out]; rfl
          have HNF : Hid (∀ k, l1[i].2.ownBlock = some k → ¬ k = fb) := fun k hk => (HNI.out k hk).2.2.2
          generalize l1[i].1 = fi at *
          generalize l1[i].2 = vi at *
          clear hil
          go_wp2_with (first | (refine wpList_putB i 0 _ HI.out rfl HIL.out (by omega) true ({ fi with is := true }, vi) rfl HBI.out HNI.out rfl rfl _ _ rfl rfl rfl ?_; intro wa ha ta sa) | (refine wpList_putI i 1 _ ha rfl HIL.out (by omega) x ({ { fi with is := true } with page := x }, vi) rfl (HBI.out.trn ta HNF.out) HNI.out rfl rfl _ _ rfl rfl rfl ?_; intro wb hb tb sb) | (refine wpList_putB i 3 _ hb rfl HIL.out (by omega) true ({ { { fi with is := true } with page := x } with dirty := true }, vi) rfl ((HBI.out.trn ta HNF.out).trn tb HNF.out) HNI.out rfl rfl _ _ rfl rfl rfl ?_; intro wc hc tc sc) | (refine wpList_putB i 4 _ hc rfl HIL.out (by omega) true ({ { { { fi with is := true } with page := x } with dirty := true } with used := true }, vi) rfl (((HBI.out.trn ta HNF.out).trn tb HNF.out).trn tc HNF.out) HNI.out rfl rfl _ _ rfl rfl rfl ?_; intro wd hd td sd))
          have HD := Lib.hid hd
          have HTD : Hid (Trn (fun k => k = fb) w1 wd) := ((ta.trans tb (fun _ _ h => h)).trans tc (fun _ _ h => h)).trans td (fun _ _ h => h)
          clear ha hb hc hd ta tb tc td sa sb sc sd
          refine (cloneb_any wd _ b (HV.out.trn HTD.out HN.out) (by have := HL.out; omega)).mono ?_
          rintro e we ⟨v2, rfl, hown, hbe⟩
          obtain ⟨A2, n2, c2, rfl, N2, hnc2, hcm2⟩ := hown.byt.form
          have HOW := Lib.hid hown
          have HBE := Lib.hid hbe
          clear hown hbe N2 hnc2 hcm2
          have hs0 := HTD.out.size
          have hs1 := HBE.out.size
          have hs2 := HTW.out.size
          have HE : Hid (PAtL we S1 (more T w we) p d fb (l1.set i ({ { { { fi with is := true } with page := x } with dirty := true } with used := true }, vi)) P1.hand P1.s) := (HD.out.below HBE.out).up HLT.out (Nat.le_trans hs2 hs0) (Nat.le_trans hs0 hs1) hs1
          have HB2 : Hid (∀ k, (Value.slice A2 n2 c2).ownBlock = some k → more T w we k ∧ ¬ S1 k ∧ k ≠ p ∧ k ≠ fb) := fun k hk => by
            obtain ⟨h1, h2⟩ := HOW.out.lt k hk
            have e1 := H1.out.lt p H1.out.tp
            have e2 := H1.out.lt fb H1.out.tf
            exact ⟨.inr ⟨by omega, h2⟩, fun hs => by have := H1.out.lt k (H1.out.sT k hs); omega, by omega, by omega⟩
          clear hs0 hs1 hs2
          go_wp2_with (refine wpList_putS i 5 _ HE.out rfl HIL.out (by omega) A2 n2 c2 ({ { { { { fi with is := true } with page := x } with dirty := true } with used := true } with b := b }, .slice A2 n2 c2) rfl HOW.out.byt HB2.out rfl rfl _ _ rfl rfl rfl ?_; intro wf hf tf sf)
          go_ret
          have hs0 := HTD.out.size
          have hs1 := HBE.out.size
          have hs2 := HTW.out.size
          refine ⟨rfl, ⟨S1, _, by rw [more_size sf.out]; exact hf, by rw [List.map_set]; exact HLQ.out b⟩, ?_⟩
          have htf : ∀ k, k < w.heap.size → k = fb → T k := fun k hk e => e ▸ H1.out.tf.elim id (fun h => by subst e; omega)
          exact ((HTW.out.trans HTD.out htf).trans (Trn.of_below HBE.out (S := fun _ => False)) (fun _ _ f => f.elim)).trans tf htf
        · rw [if_neg hr]
          obtain ⟨er, i, P1⟩ := r
          simp only at hr HRL ⊢
          have hne := ne_int hr
          have HNR := Lib.hid hr
          clear hr HRL h hv hn hmc hcm hl
          generalize hR : ((er, P1) : Nat × PSt) = R
          have HR := Lib.hid hR
          clear hR
          go_enter Tryd.func18, Tryd.ntmps18
          go_wp2_with fail
          refine HE.out.mono ?_
          rintro e w1 ⟨rfl, rfl⟩
          go_wp2_with fail
          refine HFD.out.mono ?_
          rintro e w1 ⟨rfl, rfl⟩
          go_wp2_with fail
          refine HRM.out.mono ?_
          rintro e w1 ⟨rfl, hp1, ht1⟩
          have HP1 := Lib.hid hp1
          have HT1 := Lib.hid ht1
          clear hp1 ht1
          go_wp2_with fail
          go_ret
          rw [← HR.out]
          exact ⟨rfl, HP1.out, HT1.out⟩
    · have hq : putQ P x b = (2, P) := by unfold putQ; rw [if_pos he, if_neg hl]
      rw [hq]
      have hne : ((m : Int) == 4096) = false := by rw [beq_eq_false_iff_ne]; have := M.out; omega
      have HP := Lib.hid h.s0
      clear h hv hn hq hl he M
      go_enter Tryd.func18, Tryd.ntmps18
      go_wp2_with fail
      refine HE.out.mono ?_
      rintro e w1 ⟨rfl, rfl⟩
      go_wp2_with fail
      go_ret
      exact ⟨rfl, HP.out, Trn.refl _ _⟩
  · have hq : putQ P x b = (errA P.s x, P) := by unfold putQ; rw [if_neg he]
    rw [hq]
    have HP := Lib.hid h.s0
    clear h hq hv hn M hmc hcm
    generalize errA P.s x = er at *
    have hne := ne_int he
    clear he
    generalize hR : ((er, P) : Nat × PSt) = R
    have HR := Lib.hid hR
    clear hR
    go_enter Tryd.func18, Tryd.ntmps18
    go_wp2_with fail
    refine HE.out.mono ?_
    rintro e w1 ⟨rfl, rfl⟩
    go_wp2_with fail
    go_ret
    rw [← HR.out]
    exact ⟨rfl, HP.out, Trn.refl _ _⟩
end
end Go.Proofs.YtknagdbhhfelnaaDoor
