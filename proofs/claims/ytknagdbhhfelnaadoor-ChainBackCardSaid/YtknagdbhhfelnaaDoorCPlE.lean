/-
  Package pool: fetch, Get, Pin by their contracts. Conditions: none but that the pool lies there; Pin: its pins are few.
-/
import Derived.Test.YtknagdbhhfelnaaDoorCPlD
namespace Go.Proofs.YtknagdbhhfelnaaDoor
open Go.RowKit Go.Maps
set_option maxRecDepth 100000

def usedQ (P : PSt) (i : Nat) : PSt := ⟨P.fr.set i { P.fr.getD i zeroF with used := true }, P.hand, P.s⟩
/-- Behind the room: the page is loaded there. -/
def intoQ (r : Nat × Nat × PSt) (x : Int) : Nat × Nat × PSt :=
  if r.1 = 0 then
    if (loadP r.2.2.s x).2.1 = 0 then (0, r.2.1, ⟨r.2.2.fr.set r.2.1 ⟨true, x, 0, false, true, (loadP r.2.2.s x).1⟩, r.2.2.hand, (loadP r.2.2.s x).2.2⟩)
    else ((loadP r.2.2.s x).2.1, 0, ⟨r.2.2.fr, r.2.2.hand, (loadP r.2.2.s x).2.2⟩)
  else (r.1, 0, r.2.2)
def fetchQ (P : PSt) (x : Int) : Nat × Nat × PSt :=
  if errA P.s x = 0 then
    if findF P.fr x < P.fr.length then (0, findF P.fr x, usedQ P (findF P.fr x))
    else intoQ (roomQ P) x
  else (errA P.s x, 0, P)
theorem usedQ_len (P : PSt) (i : Nat) : (usedQ P i).fr.length = P.fr.length := by simp [usedQ]
theorem intoQ_len (r : Nat × Nat × PSt) (x : Int) : (intoQ r x).2.2.fr.length = r.2.2.fr.length := by
  unfold intoQ
  split
  · split <;> simp
  · rfl
theorem fetchQ_len (P : PSt) (x : Int) : (fetchQ P x).2.2.fr.length = P.fr.length := by
  unfold fetchQ
  split
  · split
    · exact usedQ_len P _
    · rw [intoQ_len, roomQ_len]
  · rfl
theorem fetchQ_lt {P : PSt} (h : P.hand < P.fr.length) (x : Int) : (fetchQ P x).2.1 < P.fr.length := by
  unfold fetchQ
  split
  · split
    · assumption
    · unfold intoQ
      split
      · split
        · exact roomQ_lt h
        · show 0 < P.fr.length
          omega
      · show 0 < P.fr.length
        omega
  · show 0 < P.fr.length
    omega
def getQ (P : PSt) (x : Int) : List UInt8 × Nat × PSt :=
  if (fetchQ P x).1 = 0 then (((fetchQ P x).2.2.fr.getD (fetchQ P x).2.1 zeroF).b, 0, (fetchQ P x).2.2) else ([], (fetchQ P x).1, (fetchQ P x).2.2)
/-- A frame has so many pins. -/
def pinsQ (P : PSt) (i n : Nat) : PSt := ⟨P.fr.set i { P.fr.getD i zeroF with pins := n }, P.hand, P.s⟩
def pinQ (P : PSt) (x : Int) : Nat × PSt :=
  if (fetchQ P x).1 = 0 then (0, pinsQ (fetchQ P x).2.2 (fetchQ P x).2.1 (((fetchQ P x).2.2.fr.getD (fetchQ P x).2.1 zeroF).pins + 1)) else ((fetchQ P x).1, (fetchQ P x).2.2)
/-- What Get leaves: bytes of their own. -/
def GOut (w : World) (T : Nat → Prop) (p d fb : Nat) (r : List UInt8 × Nat × PSt) (e : Ending) (w' : World) : Prop :=
  ∃ v T', e = .returned (.tuple #[v, .int .i64 (r.2.1 : Int)]) ∧ Own w' w.heap.size 5 v r.1 ∧ PAt w' T' p d fb r.2.2 ∧ (∀ k, T' k → more T w w' k) ∧ (∀ k, v.ownBlock = some k → ¬ T' k) ∧ Trn T w w'
theorem afInfo : (Tryd.prog.info? 79).map (fun i => (i.zero, i.size)) = some (some (.agg #[.bool false, .int .i64 0, .int .i64 0, .bool false, .bool false]), 5) := by kernel_rfl
theorem afZero : ∀ w, (zeroValue 79).run Tryd.prog w = .ok (.agg #[.bool false, .int .i64 0, .int .i64 0, .bool false, .bool false]) w := (zero_of_info afInfo).1
theorem afSize : (Tryd.prog.info? 79).map (·.size) = some 5 := (zero_of_info afInfo).2
section
variable {w w' : World} {S T : Nat → Prop} {p d fb hand : Nat} {l : List (Fr × Value)} {s : St}
/-- The disk was read. -/
theorem PAtL.load (h : PAtL w S T p d fb l hand s) {s' : St} (hd : Dsk w' S d s') (ht : Trn S w w') : PAtL w' S T p d fb l hand s' :=
  ⟨(ht.block p (h.lt p h.tp) h.sp).trans h.obj, (ht.block fb (h.lt fb h.tf) h.sf).trans h.blk, hd, fun x hx => (h.byt x hx).trn ht (fun k hk => (h.own x hx k hk).2.1), h.own, h.sT, h.tp, h.tf, h.sp, h.sf, h.pf, fun k hk => Nat.lt_of_lt_of_le (h.lt k hk) ht.size, h.n8, h.n256, h.hd⟩
theorem PAt.err {P : PSt} (h : PAt w T p d fb P) (x : Int) : Calls Tryd.prog 37 #[.pointer (some ⟨p, 0, none⟩), .int .i64 x] w fun e w' => e = .returned (.int .i64 (errA P.s x : Int)) ∧ w = w' := by
  obtain ⟨S, l, h, _⟩ := h
  exact pmissing_is h x
theorem PAt.find {P : PSt} (h : PAt w T p d fb P) (x : Int) : Calls Tryd.prog 38 #[.pointer (some ⟨p, 0, none⟩), .int .i64 x] w fun e w' => e = .returned (.pointer (if findF P.fr x < P.fr.length then some ⟨fb, findF P.fr x * 6, none⟩ else none)) ∧ w = w' := by
  obtain ⟨S, l, h, hf⟩ := h
  refine (pfind_is h x).mono ?_
  rintro e w' ⟨rfl, rfl⟩
  have hl : l.length = P.fr.length := by rw [← hf, List.length_map]
  rw [hf, hl]
  unfold frameAt
  refine ⟨?_, rfl⟩
  split <;> rfl
set_option maxHeartbeats 1000000 in
theorem pfetch_is {P : PSt} (h : PAt w T p d fb P) (x : Int) :
    Calls Tryd.prog 63 #[.pointer (some ⟨p, 0, none⟩), .int .i64 x] w (ROut w T p d fb (fetchQ P x)) := by
  have HE := Lib.hid (h.err x)
  by_cases he : errA P.s x = 0
  · rw [he] at HE
    have HFD := Lib.hid (h.find x)
    by_cases hfd : findF P.fr x < P.fr.length
    · rw [if_pos hfd] at HFD
      have hq : fetchQ P x = (0, findF P.fr x, usedQ P (findF P.fr x)) := by unfold fetchQ; rw [if_pos he, if_pos hfd]
      rw [hq]
      obtain ⟨S, l, h, hf⟩ := h
      have hl : l.length = P.fr.length := by rw [← hf, List.length_map]
      rw [← hl] at hfd
      generalize findF P.fr x = i at *
      have hg := h.get hf hfd
      obtain ⟨f0, f1, f2, f3, f4, f5⟩ := h.at hfd
      have f4f := h.frozen (i * 6 + 4)
      have HP : Hid (PAt (w.setCell ⟨fb, i * 6 + 4, none⟩ (.bool true)) T p d fb (usedQ P i)) := ⟨S, _, h.put hfd (by omega) (.bool true) ({ l[i].1 with used := true }, l[i].2) rfl (h.mem hfd).1 (h.mem hfd).2, by rw [List.map_set, hf]; unfold usedQ; rw [hg]⟩
      have HT : Hid (Trn T w (w.setCell ⟨fb, i * 6 + 4, none⟩ (.bool true))) := (Trn.refl _ _).setCell _ (fun _ => h.tf)
      have HLT := Lib.hid h.lt
      clear h hf hl hg hq he f0 f1 f2 f3 f5
      go_enter Tryd.func63, Tryd.ntmps63
      go_wp2_with fail
      refine HE.out.mono ?_
      rintro e w1 ⟨rfl, rfl⟩
      go_wp2_with fail
      refine HFD.out.mono ?_
      rintro e w1 ⟨rfl, rfl⟩
      go_wp2_with fail
      go_ret2
      exact ⟨rfl, by rw [more_size (setCell_size _ _ _)]; exact HP.out.wide (fun k hk => .inl hk) (fun k hk => hk.elim (fun e => by rw [setCell_size]; exact HLT.out k e) (fun e => by omega)), HT.out⟩
    · rw [if_neg hfd] at HFD
      have hq : fetchQ P x = intoQ (roomQ P) x := by unfold fetchQ; rw [if_pos he, if_neg hfd]
      rw [hq]
      have HRM := Lib.hid (proom_is h)
      have HRL : Hid ((roomQ P).2.1 < (roomQ P).2.2.fr.length) := by rw [Hid, roomQ_len]; exact roomQ_lt h.len.2
      have HLT := Lib.hid h.lt
      clear h hq hfd he
      generalize roomQ P = r at *
      by_cases hr : r.1 = 0
      · have hi1 : intoQ r x = if (loadP r.2.2.s x).2.1 = 0 then (0, r.2.1, ⟨r.2.2.fr.set r.2.1 ⟨true, x, 0, false, true, (loadP r.2.2.s x).1⟩, r.2.2.hand, (loadP r.2.2.s x).2.2⟩) else ((loadP r.2.2.s x).2.1, 0, ⟨r.2.2.fr, r.2.2.hand, (loadP r.2.2.s x).2.2⟩) := by unfold intoQ; rw [if_pos hr]
        rw [hi1]
        obtain ⟨er, i, P1⟩ := r
        simp only at hr hi1 HRL ⊢
        subst hr
        clear hi1
        have HRD : Hid (∀ w S, Dsk w S d P1.s → Calls Tryd.prog 76 #[.pointer (some ⟨d, 0, none⟩), .int .i64 x] w (Red w S d (loadP P1.s x))) := fun w S h => load_is w S d P1.s x h
        have hz1 := frZero
        have hz2 := afZero
        generalize loadP P1.s x = q at *
        generalize hR : (if q.2.1 = 0 then ((0 : Nat), i, (⟨P1.fr.set i ⟨true, x, 0, false, true, q.1⟩, P1.hand, q.2.2⟩ : PSt)) else (q.2.1, 0, ⟨P1.fr, P1.hand, q.2.2⟩)) = R
        have HR := Lib.hid hR
        clear hR
        go_enter Tryd.func63, Tryd.ntmps63
        go_wp2_with fail
        refine HE.out.mono ?_
        rintro e w1 ⟨rfl, rfl⟩
        go_wp2_with fail
        refine HFD.out.mono ?_
        rintro e w1 ⟨rfl, rfl⟩
        go_wp2_with fail
        refine HRM.out.mono ?_
        rintro e w1 ⟨rfl, hp1, ht1⟩
        obtain ⟨S1, l1, h1, hf1⟩ := hp1
        obtain ⟨c0, c1, c2, c3⟩ := h1.cells
        have H1 := Lib.hid h1
        have HF1 := Lib.hid hf1
        have HT1 := Lib.hid ht1
        clear h1 hf1 ht1 c1 c2 c3
        go_wp2_with fail
        refine (HRD.out _ _ H1.out.dsk).mono ?_
        rintro e w2 ⟨v2, rfl, hown, hdk, ht2⟩
        obtain ⟨A2, n2, c2, rfl, N2, hnc2, hcm2⟩ := hown.byt.form
        clear hnc2 hcm2
        have HDL := Lib.hid (H1.out.load hdk ht2)
        have HOW := Lib.hid hown
        have HT2 := Lib.hid ht2
        have HRF := Lib.hid HRL.out
        clear hown hdk ht2
        obtain ⟨qb, eq, qs⟩ := q
        by_cases h0 : eq = 0
        · subst h0
          have hil : i < l1.length := by
            have : l1.length = P1.fr.length := by rw [← HF1.out, List.length_map]
            rw [this]; exact HRF.out
          have HIL := Lib.hid hil
          have HB2 : Hid (∀ k, (Value.slice A2 n2 c2).ownBlock = some k → more T w w2 k ∧ ¬ S1 k ∧ k ≠ p ∧ k ≠ fb) := fun k hk => by
            obtain ⟨h1, h2⟩ := HOW.out.lt k hk
            have e1 := H1.out.lt p H1.out.tp
            have e2 := H1.out.lt fb H1.out.tf
            have e3 := HT1.out.size
            exact ⟨.inr ⟨by omega, h2⟩, fun hs => by have := H1.out.lt k (H1.out.sT k hs); omega, by omega, by omega⟩
          have H3 : Hid (PAtL w2 S1 (more T w w2) p d fb l1 P1.hand qs) := HDL.out.up HLT.out HT1.out.size HT2.out.size HT2.out.size
          have HFS : Hid ((l1.set i ((⟨true, x, 0, false, true, qb⟩ : Fr), .slice A2 n2 c2)).map (·.1) = P1.fr.set i ⟨true, x, 0, false, true, qb⟩) := by rw [Hid, List.map_set, HF1.out]
          clear hil
          go_wp2_with (refine wpList_storeF H3.out i HIL.out ((⟨true, x, 0, false, true, qb⟩ : Fr), .slice A2 n2 c2) HOW.out.byt HB2.out rfl _ _ rfl rfl rfl ?_; intro w3 h3 ht3 hs3)
          have HT3 := Lib.hid ht3
          have H4 := Lib.hid h3
          clear ht3 h3
          go_ret2
          rw [← HR.out, if_pos trivial]
          refine ⟨rfl, ⟨_, _, by rw [more_size hs3]; exact H4.out, HFS.out⟩, ?_⟩
          exact (HT1.out.trans HT2.out (fun k hk e => (H1.out.sT k e).elim id (fun e => by omega))).trans HT3.out (fun k hk e => e ▸ H1.out.tf.elim id (fun h => by subst e; omega))
        · have hne := ne_int h0
          have H3 : Hid (PAtL w2 S1 (more T w w2) p d fb l1 P1.hand qs) := HDL.out.up HLT.out HT1.out.size HT2.out.size HT2.out.size
          go_wp2_with fail
          go_ret2
          rw [← HR.out, if_neg h0]
          refine ⟨by rw [if_neg h0]; rfl, ⟨_, _, H3.out, HF1.out⟩, ?_⟩
          exact HT1.out.trans HT2.out (fun k hk e => (H1.out.sT k e).elim id (fun e => by omega))
      · have hi1 : intoQ r x = (r.1, 0, r.2.2) := by unfold intoQ; rw [if_neg hr]
        rw [hi1]
        obtain ⟨er, i, P1⟩ := r
        simp only at hr hi1 HRL ⊢
        have hne := ne_int hr
        have HNR := Lib.hid hr
        clear hi1 hr HRL
        generalize hR : ((er, 0, P1) : Nat × Nat × PSt) = R
        have HR := Lib.hid hR
        clear hR
        go_enter Tryd.func63, Tryd.ntmps63
        go_wp2_with fail
        refine HE.out.mono ?_
        rintro e w1 ⟨rfl, rfl⟩
        go_wp2_with fail
        refine HFD.out.mono ?_
        rintro e w1 ⟨rfl, rfl⟩
        go_wp2_with fail
        refine HRM.out.mono ?_
        rintro e w1 ⟨rfl, hp1, ht1⟩
        have HP1 := Lib.hid hp1
        have HT1 := Lib.hid ht1
        clear hp1 ht1
        go_wp2_with fail
        go_ret2
        rw [← HR.out]
        exact ⟨by rw [if_neg HNR.out]; rfl, HP1.out, HT1.out⟩
  · have hq : fetchQ P x = (errA P.s x, 0, P) := by unfold fetchQ; rw [if_neg he]
    rw [hq]
    have HP := Lib.hid h.s0
    have HNE := Lib.hid he
    clear h hq
    generalize errA P.s x = er at *
    have hne := ne_int he
    clear he
    generalize hR : ((er, 0, P) : Nat × Nat × PSt) = R
    have HR := Lib.hid hR
    clear hR
    go_enter Tryd.func63, Tryd.ntmps63
    go_wp2_with fail
    refine HE.out.mono ?_
    rintro e w1 ⟨rfl, rfl⟩
    go_wp2_with fail
    go_ret2
    rw [← HR.out]
    exact ⟨by rw [if_neg HNE.out]; rfl, HP.out, Trn.refl _ _⟩
theorem cloneb_in (w : World) (v : Value) (l : List UInt8) (hv : Byt w v l) (hlen : l.length ≤ 70368744177664) :
    Calls Tryd.prog 40 #[v] w (Made w l) := cloneb_any w v l hv hlen
set_option maxHeartbeats 1000000 in
theorem pget_is {P : PSt} (h : PAt w T p d fb P) (x : Int) (hb : (getQ P x).1.length ≤ 70368744177664) :
    Calls Tryd.prog 50 #[.pointer (some ⟨p, 0, none⟩), .int .i64 x] w (GOut w T p d fb (getQ P x)) := by
  have HFE := Lib.hid (pfetch_is h x)
  have HLT : Hid ((fetchQ P x).2.1 < (fetchQ P x).2.2.fr.length) := by rw [Hid, fetchQ_len]; exact fetchQ_lt h.len.2 x
  unfold getQ at hb ⊢
  have HTL := Lib.hid h.lt
  clear h
  generalize fetchQ P x = r at *
  generalize hR : (if r.1 = 0 then ((r.2.2.fr.getD r.2.1 zeroF).b, 0, r.2.2) else ([], r.1, r.2.2)) = R at *
  have HR := Lib.hid hR
  have HB := Lib.hid hb
  clear hR hb
  obtain ⟨er, i, P1⟩ := r
  go_enter Tryd.func50, Tryd.ntmps50
  go_wp2_with fail
  refine HFE.out.mono ?_
  rintro e w1 ⟨rfl, hp1, ht1⟩
  by_cases h0 : er = 0
  · subst h0
    have HP1 := Lib.hid hp1
    have HT1 := Lib.hid ht1
    obtain ⟨S1, l1, h1, hf1⟩ := hp1
    have hil : i < l1.length := by
      have : l1.length = P1.fr.length := by rw [← hf1, List.length_map]
      rw [this]; exact HLT.out
    obtain ⟨f0, f1, f2, f3, f4, f5⟩ := h1.at hil
    have hRe : R = (l1[i].1.b, 0, P1) := by rw [← HR.out]; simp only [h1.get hf1 hil, if_true]
    have HCL := Lib.hid (cloneb_in w1 l1[i].2 l1[i].1.b (h1.mem hil).1 (by have := HB.out; rw [hRe] at this; exact this))
    have HRE := Lib.hid hRe
    clear hRe h1 hf1 ht1 f0 f1 f2 f3 f4
    generalize l1[i].1.b = b at *
    generalize l1[i].2 = v at *
    clear hil
    go_wp2_with fail
    refine HCL.out.mono ?_
    rintro e w2 ⟨v2, rfl, hown, hb2⟩
    have HOW := Lib.hid hown
    have HB2 := Lib.hid hb2
    clear hown hb2
    go_wp2_with fail
    go_ret2
    rw [HRE.out]
    exact ⟨v2, more T w w1, rfl, HOW.out.lower HT1.out.size, HP1.out.below HB2.out, fun k hk => hk.elim .inl (fun e => .inr ⟨e.1, by have := HB2.out.size; omega⟩), fun k hk hm => by
      have := (HOW.out.lt k hk).1
      have h3 := HT1.out.size
      exact hm.elim (fun e => by have := HTL.out k e; omega) (fun e => by omega), HT1.out.trans (Trn.of_below HB2.out (S := fun _ => False)) (fun _ _ f => f.elim)⟩
  · have hne := ne_int h0
    have HNE := Lib.hid h0
    have HP1 := Lib.hid hp1
    have HT1 := Lib.hid ht1
    clear hp1 ht1 h0
    go_wp2_with fail
    go_ret2
    rw [← HR.out, if_neg HNE.out]
    exact ⟨_, _, rfl, World.ownsRow_nil _ _ _ 1, HP1.out, fun k hk => hk, fun k hk => (by cases hk), HT1.out⟩
end
end Go.Proofs.YtknagdbhhfelnaaDoor
