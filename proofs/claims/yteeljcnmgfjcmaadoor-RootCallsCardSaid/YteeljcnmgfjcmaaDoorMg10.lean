/-
  The texts RtQ, RtR, RtS, RtT, RtU, RtV, RtW in one. Conditions: as each part says.
-/
import Derived.Test.YteeljcnmgfjcmaaDoorCRtP
import Derived.Test.YteeljcnmgfjcmaaDoorMg6
import Derived.Test.YteeljcnmgfjcmaaDoorMg3
/-
  The document's answer for roots (tallymanref06): head, Check, Slot, Choose by their contracts. Conditions: none.
-/
namespace Go.Proofs.YteeljcnmgfjcmaaDoor
open Go.RowKit Go.Maps
set_option maxRecDepth 100000

set_option maxHeartbeats 2000000 in
theorem r6head_any (n p : Nat) (w : World) : Calls Tryd.prog 43 #[.int .u64 (n : Int), .int .u64 (p : Int)] w fun e w' => e = .returned (.bool (decide (headR n p))) ∧ w = w' := by
  by_cases h0 : n = 0
  · have hd : decide (headR n p) = true := decide_eq_true (.inl h0)
    rw [hd]
    have h0' : ((n : Int) == 0) = true := by simp; omega
    clear hd h0
    go_enter Tryd.func43, Tryd.ntmps43
    go_wp2_with fail
    go_ret
    exact ⟨rfl, rfl⟩
  · have h0' : ((n : Int) == 0) = false := by simp; omega
    by_cases h2 : (2 : Int) ≤ (n : Int)
    · by_cases hp : (n : Int) < (p : Int)
      · have hd : decide (headR n p) = true := decide_eq_true (.inr ⟨by omega, by omega⟩)
        rw [hd]
        clear hd h0
        go_enter Tryd.func43, Tryd.ntmps43
        go_wp2_with fail
        go_ret
        exact ⟨rfl, rfl⟩
      · have hd : decide (headR n p) = false := decide_eq_false (by unfold headR; omega)
        rw [hd]
        clear hd h0
        go_enter Tryd.func43, Tryd.ntmps43
        go_wp2_with fail
        go_ret
        exact ⟨rfl, rfl⟩
    · have hd : decide (headR n p) = false := decide_eq_false (by unfold headR; omega)
      rw [hd]
      clear hd h0
      go_enter Tryd.func43, Tryd.ntmps43
      go_wp2_with fail
      go_ret
      exact ⟨rfl, rfl⟩
theorem r6slot_any (w : World) (r : Rt) : Calls Tryd.prog 21 #[.agg (rtV r)] w fun e w' => e = .returned (.int .i64 ((r.e % 2 : Nat) : Int)) ∧ Below w.heap.size w w' := by
  have HB := Lib.hid (below_new w (.cells (rtV r) 29))
  unfold rtV at *
  go_enter Tryd.func21, Tryd.ntmps21
  go_wp2_with fail
  go_ret
  exact ⟨ret_int (by omega), HB.out⟩
set_option maxHeartbeats 2000000 in
theorem r6check_any (w : World) (r : Rt) : Calls Tryd.prog 20 #[.agg (rtV r)] w (IntE w (checkN r)) := by
  have HB := Lib.hid (below_new w (.cells (rtV r) 29))
  have HT := Lib.hid (fun W => r6head_any r.t r.p W)
  have HS := Lib.hid (fun W => r6head_any r.s r.p W)
  unfold IntE
  generalize hq : checkN r = q
  unfold checkN at hq
  unfold rtV at *
  by_cases h0 : (r.e : Int) < 1
  · obtain rfl : q = 2 := by rw [if_neg (fun h => by have := h.1; omega)] at hq; exact hq.symm
    clear hq
    go_enter Tryd.func20, Tryd.ntmps20
    go_wp2_with fail
    go_ret
    exact ⟨rfl, HB.out⟩
  · by_cases h1 : (r.p : Int) < 8
    · obtain rfl : q = 2 := by rw [if_neg (fun h => by have := h.2.1.1; omega)] at hq; exact hq.symm
      clear hq
      go_enter Tryd.func20, Tryd.ntmps20
      go_wp2_with fail
      go_ret
      exact ⟨rfl, HB.out⟩
    · by_cases h2 : (4096 : Int) < (r.p : Int)
      · obtain rfl : q = 2 := by rw [if_neg (fun h => by have := h.2.1.2; omega)] at hq; exact hq.symm
        clear hq
        go_enter Tryd.func20, Tryd.ntmps20
        go_wp2_with fail
        go_ret
        exact ⟨rfl, HB.out⟩
      · by_cases h3 : headR r.t r.p
        · have H3 : Hid (decide (headR r.t r.p) = true) := decide_eq_true h3
          have H3x := Lib.hid h3
          clear h3
          by_cases h4 : headR r.s r.p
          · have H4 : Hid (decide (headR r.s r.p) = true) := decide_eq_true h4
            have H4x := Lib.hid h4
            clear h4
            by_cases h5 : (65536 : Int) < (r.l : Int)
            · obtain rfl : q = 2 := by rw [if_neg (fun h => by have := h.2.2.2.2; omega)] at hq; exact hq.symm
              clear hq
              go_enter Tryd.func20, Tryd.ntmps20
              go_wp2_with fail
              refine (HT.out _).mono ?_
              rintro e w1 ⟨rfl, rfl⟩
              rw [H3.out]
              go_wp2_with fail
              refine (HS.out _).mono ?_
              rintro e w2 ⟨rfl, rfl⟩
              rw [H4.out]
              go_wp2_with fail
              go_ret
              exact ⟨rfl, HB.out⟩
            · obtain rfl : q = 0 := by rw [if_pos ⟨by omega, ⟨by omega, by omega⟩, H3x.out, H4x.out, by omega⟩] at hq; exact hq.symm
              clear hq
              go_enter Tryd.func20, Tryd.ntmps20
              go_wp2_with fail
              refine (HT.out _).mono ?_
              rintro e w1 ⟨rfl, rfl⟩
              rw [H3.out]
              go_wp2_with fail
              refine (HS.out _).mono ?_
              rintro e w2 ⟨rfl, rfl⟩
              rw [H4.out]
              go_wp2_with fail
              go_ret
              exact ⟨rfl, HB.out⟩
          · have H4 : Hid (decide (headR r.s r.p) = false) := decide_eq_false h4
            have hn := h4
            obtain rfl : q = 2 := by rw [if_neg (fun h => hn h.2.2.2.1)] at hq; exact hq.symm
            clear hq hn h4
            go_enter Tryd.func20, Tryd.ntmps20
            go_wp2_with fail
            refine (HT.out _).mono ?_
            rintro e w1 ⟨rfl, rfl⟩
            rw [H3.out]
            go_wp2_with fail
            refine (HS.out _).mono ?_
            rintro e w2 ⟨rfl, rfl⟩
            rw [H4.out]
            go_wp2_with fail
            go_ret
            exact ⟨rfl, HB.out⟩
        · have H3 : Hid (decide (headR r.t r.p) = false) := decide_eq_false h3
          have hn := h3
          obtain rfl : q = 2 := by rw [if_neg (fun h => hn h.2.2.1)] at hq; exact hq.symm
          clear hq hn h3
          go_enter Tryd.func20, Tryd.ntmps20
          go_wp2_with fail
          refine (HT.out _).mono ?_
          rintro e w1 ⟨rfl, rfl⟩
          rw [H3.out]
          go_wp2_with fail
          go_ret
          exact ⟨rfl, HB.out⟩
set_option maxHeartbeats 2000000 in
theorem r6choose_any (w : World) (a b : Rt) (x y : Bool) : Calls Tryd.prog 19 #[.agg (rtV a), .agg (rtV b), .bool x, .bool y] w (ChoE w (chooseR a b x y)) := by
  have Z := rtZero
  obtain ⟨w1, hw1⟩ : ∃ w1, w.alloc (.cells (rtV a) 29) = w1 := ⟨_, rfl⟩
  obtain ⟨w2, hw2⟩ : ∃ w2, w1.alloc (.cells (rtV b) 29) = w2 := ⟨_, rfl⟩
  obtain ⟨w3, hw3⟩ : ∃ w3, w2.alloc (.cells (rtV zeroR) 29) = w3 := ⟨_, rfl⟩
  have s1 : w1.heap.size = w.heap.size + 1 := by rw [← hw1]; simp
  have s2 : w2.heap.size = w.heap.size + 2 := by rw [← hw2]; simp [s1]
  have hb1 : Below w.heap.size w w1 := hw1 ▸ below_new w _
  have hb2 : Below w1.heap.size w1 w2 := hw2 ▸ below_new w1 _
  have hb3 : Below w2.heap.size w2 w3 := hw3 ▸ below_new w2 _
  have hA : RBox w3 w.heap.size a := (((hw1 ▸ RBox.new w a : RBox w1 _ _).below hb2).below hb3)
  have hB : RBox w3 (w.heap.size + 1) b := by
    have := ((hw2 ▸ RBox.new w1 b : RBox w2 _ _).below hb3)
    rwa [s1] at this
  have hZ : RBox w3 (w.heap.size + 2) zeroR := by
    have := (hw3 ▸ RBox.new w2 zeroR : RBox w3 _ _)
    rwa [s2] at this
  have hbl : Below w.heap.size w w3 := hb1.trans ((hb2.trans (hb3.mono hb2.size)).mono hb1.size)
  have hW : w3 = ((w.alloc (.cells (rtV a) 29)).alloc (.cells (rtV b) 29)).alloc (.cells (rtV zeroR) 29) := by rw [hw1, hw2, hw3]
  rw [hW] at hA hB hZ hbl
  have HA := Lib.hid hA
  have HB := Lib.hid hB
  have HZ := Lib.hid hZ
  have HBL := Lib.hid hbl
  have c0 := hA.cells.1
  have c1 := hB.cells.1
  clear hA hB hZ hb1 hb2 hb3 hw1 hw2 hw3 s1 s2 hW hbl
  generalize hq : chooseR a b x y = q
  unfold chooseR at hq
  unfold ChoE
  cases x
  · cases y
    · obtain rfl : (zeroR, false) = q := by simpa using hq
      clear hq
      go_enter Tryd.func19, Tryd.ntmps19
      go_wp2_with (first
        | (refine wpList_storeRt rfl _ _ rfl _ rfl zeroR rfl _ HZ.out ?_; intro w2 h2 h3 h4 h5))
      refine ret_rt2 _ rfl rfl rfl _ rfl h2 ?_
      exact ⟨rfl, h3 _ _ HBL.out (by omega)⟩
    · obtain rfl : (b, true) = q := by simpa using hq
      clear hq
      go_enter Tryd.func19, Tryd.ntmps19
      go_wp2_with (first
        | (refine wpList_loadRt rfl _ rfl _ rfl _ HB.out ?_)
        | (refine wpList_storeRt rfl _ _ rfl _ rfl b rfl _ HZ.out ?_; intro w2 h2 h3 h4 h5))
      refine ret_rt2 _ rfl rfl rfl _ rfl h2 ?_
      exact ⟨rfl, h3 _ _ HBL.out (by omega)⟩
  · cases y
    · obtain rfl : (a, true) = q := by simpa using hq
      clear hq
      go_enter Tryd.func19, Tryd.ntmps19
      go_wp2_with (first
        | (refine wpList_loadRt rfl _ rfl _ rfl _ HA.out ?_)
        | (refine wpList_storeRt rfl _ _ rfl _ rfl a rfl _ HZ.out ?_; intro w2 h2 h3 h4 h5))
      refine ret_rt2 _ rfl rfl rfl _ rfl h2 ?_
      exact ⟨rfl, h3 _ _ HBL.out (by omega)⟩
    · by_cases hlt : (a.e : Int) < (b.e : Int)
      · obtain rfl : (b, true) = q := by rw [if_pos ⟨rfl, rfl, by omega⟩] at hq; exact hq
        clear hq
        have hge : ¬ (b.e : Int) ≤ (a.e : Int) := by omega
        go_enter Tryd.func19, Tryd.ntmps19
        go_wp2_with (first
          | (refine wpList_loadRt rfl _ rfl _ rfl _ HB.out ?_)
          | (refine wpList_storeRt rfl _ _ rfl _ rfl b rfl _ HZ.out ?_; intro w2 h2 h3 h4 h5))
        refine ret_rt2 _ rfl rfl rfl _ rfl h2 ?_
        exact ⟨rfl, h3 _ _ HBL.out (by omega)⟩
      · obtain rfl : (a, true) = q := by rw [if_neg (fun h => hlt (by have := h.2.2; omega)), if_pos rfl] at hq; exact hq
        clear hq
        have hge : (b.e : Int) ≤ (a.e : Int) := by omega
        go_enter Tryd.func19, Tryd.ntmps19
        go_wp2_with (first
          | (refine wpList_loadRt rfl _ rfl _ rfl _ HA.out ?_)
          | (refine wpList_storeRt rfl _ _ rfl _ rfl a rfl _ HZ.out ?_; intro w2 h2 h3 h4 h5))
        refine ret_rt2 _ rfl rfl rfl _ rfl h2 ?_
        exact ⟨rfl, h3 _ _ HBL.out (by omega)⟩
end Go.Proofs.YteeljcnmgfjcmaaDoor

/-
  The document's reader (tallymanref01.Reader): words of eight bytes. Conditions: there are eight bytes.
-/
namespace Go.Proofs.YteeljcnmgfjcmaaDoor
open Go.RowKit Go.Maps
set_option maxRecDepth 100000

theorem rbyt_reader {w w' : World} {v : Value} {l m : List UInt8} {g : Nat} (h : Byt w v l) (hr : RRdr w g m) (hg : w.grownBy w' (some g)) : Byt w' v l := by
  obtain ⟨A, c, c0, c1, f0, hb, hg2, hnb, hlc, hcm⟩ := rcells hr
  refine h.keep hg.size (fun b hb hu => hg.block b hb ?_)
  intro e
  obtain rfl : b = g := by simpa using e
  exact hnb hu
theorem RRdr.lt {w : World} {g : Nat} {l : List UInt8} (h : RRdr w g l) : g < w.heap.size := by
  obtain ⟨A, c, h1, h2⟩ := h
  exact (Array.getElem?_eq_some_iff.1 h1).1
theorem RRdr.setRest {w : World} {g : Nat} {l m : List UInt8} {A : Option Addr} {c : Nat} (h : RRdr w g l) (hm : Byt w (.slice A m.length c) m) : RRdr (w.setCell ⟨g, 0, none⟩ (.slice A m.length c)) g m := by
  have h0 := h
  obtain ⟨A', c', h1, h2⟩ := h
  refine ⟨A, c, ?_, rbyt_reader hm h0 (grown_set w g 0 _)⟩
  simp [World.setCell, Array.getElem?_modify, h1]
/-- What take of eight bytes leaves. -/
def RTook8 (w : World) (g : Nat) (l : List UInt8) (e : Ending) (w' : World) : Prop :=
  ∃ v, e = .returned (.tuple #[v, .bool true]) ∧ Byt w' v (l.take 8) ∧ RRdr w' g (l.drop 8) ∧ w.grownBy w' (some g)
set_option maxHeartbeats 1000000 in
theorem rtake8_is (w : World) (g : Nat) (l : List UInt8) (hr : RRdr w g l) (hl : 8 ≤ l.length) (hlen : l.length ≤ 10000) :
    Calls Tryd.prog 69 #[.pointer (some ⟨g, 0, none⟩), .int .i64 8] w (RTook8 w g l) := by
  obtain ⟨i0, hi0, hz0, hz1, hz2⟩ := info_parts uinfo
  obtain ⟨A, c, c0, c1, f0, hb, hg, hnb, hlc, hcm⟩ := rcells hr
  obtain ⟨m, hm⟩ : ∃ m, l.length = m := ⟨_, rfl⟩
  rw [hm] at c0 hb hlc hl hlen
  have hm8 : ¬ (m : Int) < 8 := by omega
  obtain ⟨A1, n1, c1', r1, b1, N1, hN1a, hN1b⟩ := hb.uptorun 22 elemByte sizeByte 8 (by omega) .i64
  have r1' : ∀ W, (Instr.slice 22 (.slice A m c) none (some (.int .i64 8)) none).run Tryd.prog W = .ok (.slice A1 n1 c1') W := r1
  obtain ⟨A2, n2, c2, r2, b2, N2, hN2a, hN2b⟩ := hb.cutrun 22 elemByte sizeByte 8 (by omega) .i64
  have r2' : ∀ W, (Instr.slice 22 (.slice A m c) (some (.int .i64 8)) none none).run Tryd.prog W = .ok (.slice A2 n2 c2) W := r2
  have HE := Lib.hid (Own.empty w)
  have B1 := Lib.hid b1
  have B2 := Lib.hid b2
  have HR := Lib.hid hr
  have HG := Lib.hid hg
  have HM := Lib.hid hm
  have HC : Hid (∀ w1, Below w.heap.size w w1 → w1.cell? ⟨g, 0, none⟩ = some (.slice A m c)) := fun w1 h => (h.cell (p := ⟨g, 0, none⟩) hg).trans c0
  have HF : Hid (∀ w1, Below w.heap.size w w1 → w1.frozen? ⟨g, 0, none⟩ = false) := fun w1 h => (h.frozen (p := ⟨g, 0, none⟩) hg).trans f0
  have HT : Hid ((l.take 8).length = 8) := by rw [Hid, List.length_take]; omega
  clear hr hb hg hnb r1 r2 b1 b2 hm hN1a hN1b hN2a hN2b
  obtain ⟨t, ht⟩ : ∃ t, l.take 8 = t := ⟨_, rfl⟩
  obtain ⟨d, hd⟩ : ∃ d, l.drop 8 = d := ⟨_, rfl⟩
  rw [ht] at B1 HT
  rw [hd] at B2
  unfold RTook8
  rw [ht, hd]
  clear ht hd
  go_enter Tryd.func69, Tryd.ntmps69
  have q0 := HC.out _ (below_new w (.cells #[] 5))
  go_wp2_with (at_builtin; refine wpList_app _ rfl (.tmp 29) (.tmp 35) _ rfl w.heap.size 5 i0 _ Tryd.underlying22 hi0 hz0 hz1 hz2 rfl _ [] rfl HE.out _ t rfl (B1.out.alloc _) (by simp; have := HT.out; omega) (by simp) ?_; intro v1 w1 hown1 hg1 hat1; have hb1 := below_own (below_new w _) (by simp) HE.out hg1; rw [List.nil_append] at hown1; have d0 := HC.out w1 hb1; have e0 := HF.out w1 hb1; obtain ⟨A3, n3, c3, rfl, N3, hnc3, hcm3⟩ := hown1.byt.form; clear hg1 hat1)
  go_ret2
  have hb2 := B2.out.below hb1
  obtain ⟨A4, c4, e4, _⟩ := B2.out
  injection e4 with e5 e6 e7
  subst e5 e7
  rw [e6] at hb2 ⊢
  exact ⟨_, rfl, rbyt_reader hown1.byt (HR.out.below hb1) (grown_set _ _ _ _), (HR.out.below hb1).setRest hb2, grown_trans (grown_below hb1) (grown_set _ _ _ _)⟩
theorem wrap_add8 (k a x : Nat) (hk : k < 8) (hx : x < 256) (ha : a < 256 ^ k) : IntKind.u64.wrap ((a : Int) + IntKind.u64.wrap ((x : Int) * 2 ^ (8 * k))) = ((a + x * 256 ^ k : Nat) : Int) := by
  have hk8 : k = 0 ∨ k = 1 ∨ k = 2 ∨ k = 3 ∨ k = 4 ∨ k = 5 ∨ k = 6 ∨ k = 7 := by omega
  rcases hk8 with rfl | rfl | rfl | rfl | rfl | rfl | rfl | rfl <;> simp only [IntKind.wrap_u64] <;> simp at ha ⊢ <;> omega
/-- What a word of eight bytes leaves. -/
def RNext (w : World) (g n : Nat) (l : List UInt8) (e : Ending) (w' : World) : Prop := e = .returned (.int .u64 (n : Int)) ∧ RRdr w' g l ∧ w.grownBy w' (some g)
set_option maxRecDepth 100000 in
set_option maxHeartbeats 2000000 in
theorem rrword8_is (w : World) (g : Nat) (l : List UInt8) (hr : RRdr w g l) (hl : 8 ≤ l.length) (hlen : l.length ≤ 10000) :
    Calls Tryd.prog 46 #[.pointer (some ⟨g, 0, none⟩), .int .i64 8] w (RNext w g (wAt l 0) (l.drop 8)) := by
  obtain ⟨A, c, c0, c1, f0, hb, hg, hnb, hlc, hcm⟩ := rcells hr
  have HT := Lib.hid (rtake8_is w g l hr hl hlen)
  have hl8 : (l.take 8).length = 8 := by rw [List.length_take]; omega
  have hw : wAt l 0 = wordN (l.take 8) := by unfold wAt; simp
  rw [hw]
  unfold RTook8 at HT
  unfold RNext
  generalize l.drop 8 = d at *
  generalize l.take 8 = t at *
  clear hr hb hg hnb f0 c0 hl hlen hw
  go_enter Tryd.func46, Tryd.ntmps46
  go_wp2_with fail
  refine HT.out.mono ?_
  rintro e w1 ⟨v1, rfl, hb1, hr1, hg1⟩
  have HB := Lib.hid hb1
  have HR := Lib.hid hr1
  have HG := Lib.hid hg1
  obtain ⟨A1, n1, c1', rfl, N1, hnc1, hcm1⟩ := hb1.form
  obtain rfl : n1 = 8 := N1.out.trans hl8
  have HL := Lib.hid hl8
  clear hb1 hr1 hg1 N1 c1 hl8
  go_wp2_with fail
  go_loop [7, 8] (fun n i => RWRel t n i) (fun _ i => 8 - (intOf i).toNat)
  case atStart => exact ⟨0, by omega, rfl, rfl⟩
  case round =>
    obtain ⟨k, hk, rfl, rfl⟩ := hrel
    have hl4 := HL.out
    by_cases hlt : k < t.length
    · obtain ⟨b, off, rfl, hb, hc⟩ := HB.out.at hlt
      have hcell := hc k hlt
      have hst := word_add t k hlt
      have hx : t[k].toNat < 256 := t[k].toNat_lt
      have ha := wordN_lt (t.take k)
      rw [List.length_take, Nat.min_eq_left (by omega)] at ha
      clear hc hb
      generalize t[k].toNat = x at *
      have HS := Lib.hid hst
      have HWA := Lib.hid (wrap_add8 k _ _ (by omega) hx ha)
      clear hst ha
      generalize wordN (t.take k) = a at *
      go_wp2
      rw [HWA.out]
      exact ⟨⟨k + 1, by omega, by go_num, by rw [HS.out]⟩, by simp [intOf]; omega⟩
    · have hfin : t.take k = t := List.take_of_length_le (by omega)
      obtain rfl : k = 8 := by omega
      rw [hfin]
      go_wp2
      go_ret
      exact ⟨rfl, HR.out, HG.out⟩
end Go.Proofs.YteeljcnmgfjcmaaDoor

/-
  The document's answer for roots (tallymanref06): Bytes by its contract. Conditions: a root's numbers are those of 64 bits.
-/
namespace Go.Proofs.YteeljcnmgfjcmaaDoor
open Go.RowKit Go.Maps
set_option maxRecDepth 100000

/-- Words one behind the other. -/
def wordsB (l : List Nat) : List UInt8 := l.flatMap (wordB 8)
theorem wordsB_snoc (l : List Nat) (k : Nat) (hk : k < l.length) : wordsB (l.take (k + 1)) = wordsB (l.take k) ++ wordB 8 (l.getD k 0) := by
  unfold wordsB
  rw [List.take_succ_eq_append_getElem hk, List.flatMap_append, List.getD_eq_getElem?_getD, List.getElem?_eq_getElem hk]
  simp
theorem wordsB_rt (r : Rt) : wordsB (rtL r) = rtB r := by simp [wordsB, rtL, rtB]
theorem wordsB_len (l : List Nat) : (wordsB l).length = 8 * l.length := by
  unfold wordsB
  induction l with
  | nil => rfl
  | cons a l ih => rw [List.flatMap_cons, List.length_append, ih, wordB_len]; simp; omega
theorem rtL_at (r : Rt) (k : Nat) (hk : k < 9) : (rtV r)[k]? = some (.int .u64 (((rtL r).getD k 0 : Nat) : Int)) := by
  have h : k = 0 ∨ k = 1 ∨ k = 2 ∨ k = 3 ∨ k = 4 ∨ k = 5 ∨ k = 6 ∨ k = 7 ∨ k = 8 := by omega
  rcases h with rfl | rfl | rfl | rfl | rfl | rfl | rfl | rfl | rfl <;> rfl
theorem rtL_lt (r : Rt) (h : r.Wf) (k : Nat) : (rtL r).getD k 0 < 18446744073709551616 := by
  by_cases hk : k < 9
  · have h' : k = 0 ∨ k = 1 ∨ k = 2 ∨ k = 3 ∨ k = 4 ∨ k = 5 ∨ k = 6 ∨ k = 7 ∨ k = 8 := by omega
    obtain ⟨h0, h1, h2, h3, h4, h5, h6, h7, h8⟩ := h
    rcases h' with rfl | rfl | rfl | rfl | rfl | rfl | rfl | rfl | rfl <;> assumption
  · rw [List.getD_eq_getElem?_getD, List.getElem?_eq_none (by simp [rtL]; omega)]
    decide
set_option maxRecDepth 100000 in
set_option maxHeartbeats 4000000 in
theorem r6bytes_bad (w : World) (r : Rt) (h : ¬ okR r) : Calls Tryd.prog 17 #[.agg (rtV r)] w (Refused w 2) := by
  obtain ⟨w0, hw0⟩ : ∃ w0, w.alloc (.cells (rtV r) 29) = w0 := ⟨_, rfl⟩
  have HX0 : Hid (RBox (w.alloc (.cells (rtV r) 29)) w.heap.size r) := RBox.new w r
  have HB0 : Hid (Below w.heap.size w w0) := hw0 ▸ below_new w _
  have HW0 := Lib.hid hw0
  have HC : Hid (checkN r = 2) := if_neg h
  clear hw0 h
  go_enter Tryd.func17, Tryd.ntmps17
  go_wp2_with (refine wpList_loadRt rfl _ rfl _ rfl _ HX0.out ?_)
  rw [HW0.out]
  refine (r6check_any _ r).mono ?_
  rintro e w1 ⟨rfl, hb1⟩
  rw [HC.out]
  go_wp2_with fail
  go_ret2
  exact ⟨rfl, HB0.out.trans (hb1.mono HB0.out.size)⟩
def R6Rel (w w2 : World) (r : Rt) (v i : Value) (wr : World) : Prop :=
  ∃ k : Nat, k ≤ 9 ∧ i = .int .i64 (k : Int) ∧ Own wr w.heap.size 5 v (wordsB ((rtL r).take k)) ∧ Below w2.heap.size w2 wr
set_option maxRecDepth 100000 in
set_option maxHeartbeats 4000000 in
theorem r6bytes_ok (w : World) (r : Rt) (hwf : r.Wf) (h : okR r) : Calls Tryd.prog 17 #[.agg (rtV r)] w (MadeE w (rootB r)) := by
  obtain ⟨w0, hw0⟩ : ∃ w0, w.alloc (.cells (rtV r) 29) = w0 := ⟨_, rfl⟩
  have HX0 : Hid (RBox (w.alloc (.cells (rtV r) 29)) w.heap.size r) := RBox.new w r
  have HB0 : Hid (Below w.heap.size w w0) := hw0 ▸ below_new w _
  have HW0 := Lib.hid hw0
  have HC : Hid (checkN r = 0) := if_pos h
  have HF := Lib.hid hwf
  clear hw0 h hwf
  go_enter Tryd.func17, Tryd.ntmps17
  go_wp2_with (refine wpList_loadRt rfl _ rfl _ rfl _ HX0.out ?_)
  rw [HW0.out] at HX0 ⊢
  refine (r6check_any _ r).mono ?_
  rintro e w1 ⟨rfl, hb1⟩
  rw [HC.out]
  have HX1 := Lib.hid (HX0.out.below hb1)
  have HB1 := Lib.hid (HB0.out.trans (hb1.mono HB0.out.size))
  obtain ⟨w2, hw2⟩ : ∃ w2, w1.alloc (.cells (rtV r) 26) = w2 := ⟨_, rfl⟩
  have HB2 : Hid (Below w.heap.size w w2) := hw2 ▸ HB1.out.alloc HB1.out.size _
  have HX2 : Hid (RBox w2 w.heap.size r) := hw2 ▸ HX1.out.below (below_new w1 _)
  have HG2 : Hid (w2.heap[w1.heap.size]? = some (.cells (rtV r) 26)) := by rw [Hid, ← hw2]; exact heap_alloc_new w1 _
  have HS2 : Hid (w1.heap.size < w2.heap.size) := by rw [Hid, ← hw2]; simp
  obtain ⟨c0, c1, c2, c3, c4, c5, c6, c7, c8⟩ := HX1.out.cells
  have HW2 := Lib.hid hw2
  unfold rtV at HW2
  clear hb1 hw2
  go_wp2_with fail
  rw [HW2.out]
  clear c0 c1 c2 c3 c4 c5 c6 c7 c8
  generalize w1.heap.size = g at *
  go_loopw [5, 7] (fun v i wr => R6Rel w w2 r v i wr) (fun _ i _ => 9 - (intOf i).toNat)
  case atStart => exact ⟨0, by omega, rfl, World.ownsRow_nil _ _ _ 1, Below.refl _ _⟩
  case round =>
    obtain ⟨k, hk, rfl, hown, hbel⟩ := hrel
    have HO := Lib.hid hown
    have HB := Lib.hid hbel
    by_cases hlt : k < 9
    · have hcell : wr.cell? ⟨g, k, none⟩ = some (.int .u64 (((rtL r).getD k 0 : Nat) : Int)) := by
        rw [hbel.cell (p := ⟨g, k, none⟩) HS2.out, cell_of_row _ _ _ _ _ _ HG2.out, rtL_at r k hlt]
      have HN := Lib.hid (rtL_lt r HF.out k)
      have HS := Lib.hid (wordsB_snoc (rtL r) k hlt)
      have HLL : Hid ((wordsB ((rtL r).take k)).length ≤ 1000) := by rw [Hid, wordsB_len, List.length_take]; omega
      obtain ⟨A, m, c, rfl, N, hnc, hcm⟩ := hown.byt.form
      clear hown hbel
      generalize (rtL r).getD k 0 = x at *
      go_wp2_with fail
      refine (refword_is _ _ _ x 8 HO.out.byt HN.out (by omega) (by have := HLL.out; omega)).mono ?_
      rintro e w3 ⟨v3, rfl, hown3, hb3⟩
      have HO3 := Lib.hid (hown3.lower (Nat.le_trans HB2.out.size HB.out.size))
      have HB3 := Lib.hid (HB.out.trans (hb3.mono HB.out.size))
      obtain ⟨A3, n3, c3, rfl, N3, hnc3, hcm3⟩ := hown3.byt.form
      clear hown3 hb3
      go_wp2_with fail
      go_roundw
      case rel => exact ⟨k + 1, by omega, by go_num, by rw [HS.out]; exact HO3.out, HB3.out⟩
      case measure => simp [intOf]; omega
    · obtain rfl : k = 9 := by omega
      have hown' := hown
      rw [show wordsB ((rtL r).take 9) = rtB r from wordsB_rt r] at hown'
      have HOB := Lib.hid hown'
      clear hown'
      obtain ⟨c0, c1, c2, c3, c4, c5, c6, c7, c8⟩ := (HX2.out.below hbel).cells
      obtain ⟨A, m, c, rfl, N, hnc, hcm⟩ := hown.byt.form
      have HBW := Lib.hid (HB2.out.trans (hbel.mono HB2.out.size))
      clear hown hbel
      go_wp2_with fail
      rw [show (r.e : Int) % 4294967296 = ((r.e % 4294967296 : Nat) : Int) from by omega]
      refine (r5bytes_ok _ 1 (r.e % 4294967296) _ (rtB r) HOB.out.byt (by omega) (by omega) (by rw [rtB_len]; omega) (by omega)).mono ?_
      rintro e w3 ⟨v3, rfl, hown3, hb3⟩
      have HB3 := Lib.hid (HBW.out.trans (hb3.mono HBW.out.size))
      have HO3 := Lib.hid (hown3.lower HBW.out.size)
      obtain ⟨A3, n3, c3, rfl, N3, hnc3, hcm3⟩ := hown3.byt.form
      clear hown3 hb3
      go_wp2_with fail
      go_ret2
      exact ⟨_, rfl, HO3.out, HB3.out⟩
end Go.Proofs.YteeljcnmgfjcmaaDoor

/-
  The document's answer for roots (tallymanref06): Read by its contract. Conditions: none.
-/
namespace Go.Proofs.YteeljcnmgfjcmaaDoor
open Go.RowKit Go.Maps
set_option maxRecDepth 100000

/-- A root with one of its numbers set. -/
def setR (r : Rt) (i x : Nat) : Rt := match i with
  | 0 => { r with e := x } | 1 => { r with p := x } | 2 => { r with t := x } | 3 => { r with s := x } | 4 => { r with l := x }
  | 5 => { r with a := x } | 6 => { r with b := x } | 7 => { r with c := x } | _ => { r with d := x }
theorem RBox.put {w : World} {p : Nat} {r : Rt} (h : RBox w p r) (i x : Nat) (hi : i < 9) : RBox (w.setCell ⟨p, i, none⟩ (.int .u64 (x : Int))) p (setR r i x) := by
  have hi' : i = 0 ∨ i = 1 ∨ i = 2 ∨ i = 3 ∨ i = 4 ∨ i = 5 ∨ i = 6 ∨ i = 7 ∨ i = 8 := by omega
  unfold RBox at h ⊢
  rcases hi' with rfl | rfl | rfl | rfl | rfl | rfl | rfl | rfl | rfl <;> simp [World.setCell, Array.getElem?_modify, h, rtV, setR]
/-- The operation that writes one number of a root. -/
theorem wpList_putRt {ops : Array Oper} {rest : List Oper} {o : Oper} {a : Act} {w : World} {Q : Exit → Act → World → Prop} (hgd : o.guard = none) (hd : o.dst = none) (x y : Operand) (ho : o.op = .store 26 x y) (g i n : Nat) (hi : i < 9) (hx : a.eval x = .pointer (some ⟨g, i, none⟩)) (hy : a.eval y = .int .u64 (n : Int)) {r : Rt} (h : RBox w g r)
    (hK : wpList Tryd.prog ops Q rest a (w.setCell ⟨g, i, none⟩ (.int .u64 (n : Int)))) : wpList Tryd.prog ops Q (o :: rest) a w :=
  wpList_plain hgd fun K hk => by
    have hk' := hk _ _ hK
    obtain ⟨dst, op, type, pos, after, guard⟩ := o
    simp only at ho hd
    subst ho hd
    have c : w.cell? ⟨g, i, none⟩ = some (.int .u64 (((rtL r).getD i 0 : Nat) : Int)) := by rw [cell_of_row _ _ _ _ _ _ h, rtL_at r i hi]
    have f := h.frozen i
    clear h hK hk
    unfold Oper.wp
    generalize a.eval = ρ at *
    go_simp
    exact hk'
/-- Where Read's words are read: k of them, the root so far in a block. -/
structure RdSt6 (w u : World) (v : Value) (b : List UInt8) (g q k : Nat) (l : List UInt8) (r : Rt) : Prop where
  box0 : RBox u w.heap.size zeroR
  box : RBox u q r
  rdr : RRdr u g (l.drop (8 * k))
  byt : Byt u v b
  bel : Below w.heap.size w u
  hq : w.heap.size < q
  hg : w.heap.size < g
  ne : q ≠ g
theorem RdSt6.next {w u u' : World} {v : Value} {b : List UInt8} {g q k n : Nat} {l : List UInt8} {r : Rt} {e : Ending} (h : RdSt6 w u v b g q k l r) (hn : RNext u g n ((l.drop (8 * k)).drop 8) e u') : RdSt6 w u' v b g q (k + 1) l r := by
  obtain ⟨_, hr, hg⟩ := hn
  rw [List.drop_drop, show 8 * k + 8 = 8 * (k + 1) by omega] at hr
  exact ⟨(hg.block _ h.box0.lt (by have := h.hg; simp; omega)).trans h.box0, (hg.block _ h.box.lt (by have := h.ne; simp; exact h.ne)).trans h.box, hr, rbyt_reader h.byt h.rdr hg, h.bel.grown hg h.bel.size (fun k e => by injection e with e; have := h.hg; omega), h.hq, h.hg, h.ne⟩
theorem RdSt6.call {w u : World} {v : Value} {b : List UInt8} {g q k : Nat} {l : List UInt8} {r : Rt} (h : RdSt6 w u v b g q k l r) (hl : 72 ≤ l.length) (hl2 : l.length ≤ 10000) (hk : k < 9) :
    Calls Tryd.prog 46 #[.pointer (some ⟨g, 0, none⟩), .int .i64 8] u fun e u' => e = .returned (.int .u64 (wAt l k : Int)) ∧ RdSt6 w u' v b g q (k + 1) l r := by
  have hx : wAt (l.drop (8 * k)) 0 = wAt l k := by
    unfold wAt
    rw [List.drop_drop, Nat.mul_zero, Nat.add_zero]
  refine (rrword8_is u g _ h.rdr (by rw [List.length_drop]; omega) (by rw [List.length_drop]; omega)).mono ?_
  intro e u' hn
  exact ⟨by rw [← hx]; exact hn.1, h.next hn⟩
theorem RdSt6.put {w u : World} {v : Value} {b : List UInt8} {g q k : Nat} {l : List UInt8} {r : Rt} (h : RdSt6 w u v b g q k l r) (i x : Nat) (hi : i < 9) : RdSt6 w (u.setCell ⟨q, i, none⟩ (.int .u64 (x : Int))) v b g q k l (setR r i x) := by
  refine ⟨?_, h.box.put i x hi, ?_, ?_, h.bel.setCell (p := ⟨q, i, none⟩) (Nat.le_of_lt h.hq) _, h.hq, h.hg, h.ne⟩
  · unfold RBox
    rw [heap_cell_other (by have := h.hq; omega)]
    exact h.box0
  · obtain ⟨A, c, h1, h2⟩ := h.rdr
    refine ⟨A, c, ?_, ?_⟩
    · rw [heap_cell_other (fun e => h.ne e.symm)]
      exact h1
    · refine h2.keep (by rw [setCell_size]; exact Nat.le_refl _) (fun j hj hu => ?_)
      have hne : j ≠ q := by
        rintro rfl
        obtain ⟨off, x, hc⟩ := hu
        rw [cell_of_row _ _ _ _ _ _ h.box] at hc
        by_cases ho : off < 9
        · rw [rtL_at r off ho] at hc
          simp at hc
        · rw [Array.getElem?_eq_none (by rw [rtV_size]; omega)] at hc
          simp at hc
      rw [heap_cell_other hne]
  · refine h.byt.keep (by rw [setCell_size]; exact Nat.le_refl _) (fun j hj hu => ?_)
    have hne : j ≠ q := by
      rintro rfl
      obtain ⟨off, x, hc⟩ := hu
      rw [cell_of_row _ _ _ _ _ _ h.box] at hc
      by_cases ho : off < 9
      · rw [rtL_at r off ho] at hc
        simp at hc
      · rw [Array.getElem?_eq_none (by rw [rtV_size]; omega)] at hc
        simp at hc
    rw [heap_cell_other hne]
end Go.Proofs.YteeljcnmgfjcmaaDoor

/-
  The document's answer for roots (tallymanref06): Read by its contract. Conditions: none.
-/
namespace Go.Proofs.YteeljcnmgfjcmaaDoor
open Go.RowKit Go.Maps
set_option maxRecDepth 100000

set_option maxRecDepth 100000 in
set_option maxHeartbeats 8000000 in
theorem r6read_not (w : World) (v : Value) (b : List UInt8) (hv : Byt w v b) (h : ¬ okB b) : Calls Tryd.prog 24 #[v] w (RtN w zeroR 4) := by
  have Z := rtZero
  obtain ⟨A, m, c, rfl, N, hnc, hcm⟩ := hv.form
  obtain ⟨w0, hw0⟩ : ∃ w0, w.alloc (.cells (rtV zeroR) 29) = w0 := ⟨_, rfl⟩
  have HX0 : Hid (RBox w0 w.heap.size zeroR) := hw0 ▸ RBox.new w zeroR
  have HB0 : Hid (Below w.heap.size w w0) := hw0 ▸ below_new w _
  have HV0 := Lib.hid (hv.below HB0.out)
  have HW0 := Lib.hid hw0
  clear hv hw0
  go_enter Tryd.func24, Tryd.ntmps24
  go_wp2_with fail
  rw [HW0.out]
  refine (r5read_bad _ _ b HV0.out h).mono ?_
  rintro e w1 ⟨rfl, hb1⟩
  have hb2 := hb1.trans ((below_new w1 (.cells (pageV 0 0 (.slice none 0 0)) 62)).mono hb1.size)
  have HX2 := Lib.hid (HX0.out.below hb2)
  have HB2 := Lib.hid (HB0.out.trans (hb2.mono HB0.out.size))
  clear hb1 hb2
  unfold pageV at *
  go_wp2_with (with_reducible (show wpList _ _ _ (⟨_, Op.store 29 _ _, _, _, _, _⟩ :: _) _ _); refine wpList_storeRt rfl _ _ rfl _ rfl zeroR rfl _ (HX2.out) ?_; intro w9 h2 h3 h4 h5)
  refine ret_rt2 _ rfl rfl rfl _ rfl h2 ?_
  exact ⟨rfl, h3 _ _ HB2.out (Nat.le_refl _)⟩
set_option maxRecDepth 100000 in
set_option maxHeartbeats 8000000 in
theorem r6read_kind (w : World) (v : Value) (b : List UInt8) (hv : Byt w v b) (h : okB b) (hk : (b.getD 3 0).toNat ≠ 1) : Calls Tryd.prog 24 #[v] w (RtN w zeroR 4) := by
  have Z := rtZero
  obtain ⟨A, m, c, rfl, N, hnc, hcm⟩ := hv.form
  obtain ⟨w0, hw0⟩ : ∃ w0, w.alloc (.cells (rtV zeroR) 29) = w0 := ⟨_, rfl⟩
  have HX0 : Hid (RBox w0 w.heap.size zeroR) := hw0 ▸ RBox.new w zeroR
  have HB0 : Hid (Below w.heap.size w w0) := hw0 ▸ below_new w _
  have HV0 := Lib.hid (hv.below HB0.out)
  have HW0 := Lib.hid hw0
  have HL : Hid (b.length = 4096) := h.1.1
  clear hv hw0
  go_enter Tryd.func24, Tryd.ntmps24
  go_wp2_with fail
  rw [HW0.out]
  refine (r5read_ok _ _ b HV0.out h).mono ?_
  rintro e w1 ⟨v1, rfl, hown1, hb1⟩
  obtain ⟨A1, n1, c1, rfl, N1, hnc1, hcm1⟩ := hown1.byt.form
  generalize ((numW b : Nat) : Int) = nm at *
  obtain ⟨kd, hkd⟩ : ∃ kd : Int, ((b.getD 3 0).toNat : Int) = kd := ⟨_, rfl⟩
  rw [hkd]
  have hk1 : (kd == 1) = false := by rw [beq_eq_false_iff_ne]; omega
  clear hkd hk
  obtain ⟨w2, hw2⟩ : ∃ w2, w1.alloc (.cells (pageV kd nm (.slice A1 n1 c1)) 62) = w2 := ⟨_, rfl⟩
  have hb12 : Below w1.heap.size w1 w2 := hw2 ▸ below_new w1 _
  have hb2 : Below w0.heap.size w0 w2 := hb1.trans (hb12.mono hb1.size)
  have HX2 := Lib.hid (HX0.out.below hb2)
  have HB2 := Lib.hid (HB0.out.trans (hb2.mono HB0.out.size))
  have HV2 := Lib.hid (HV0.out.below hb2)
  have HO2 := Lib.hid (hown1.byt.below hb12)
  obtain ⟨d0, d1, d2⟩ := (hw2 ▸ Box.new w1 kd nm (.slice A1 n1 c1) : Box w2 _ _ _ _).cells
  rw [← hw2] at d0 d1 d2
  have HW2 := Lib.hid hw2
  have HX2' : Hid (RBox (w1.alloc (.cells (pageV kd nm (.slice A1 n1 c1)) 62)) w.heap.size zeroR) := by rw [Hid, hw2]; exact HX2.out
  have HB2' : Hid (Below w.heap.size w (w1.alloc (.cells (pageV kd nm (.slice A1 n1 c1)) 62))) := by rw [Hid, hw2]; exact HB2.out
  clear hown1 hb1 hb12 hb2 hw2
  unfold pageV at *
  go_wp2_with (with_reducible (show wpList _ _ _ (⟨_, Op.store 29 _ _, _, _, _, _⟩ :: _) _ _); refine wpList_storeRt rfl _ _ rfl _ rfl zeroR rfl _ (HX2'.out) ?_; intro w9 h2 h3 h4 h5)
  refine ret_rt2 _ rfl rfl rfl _ rfl h2 ?_
  exact ⟨rfl, h3 _ _ HB2'.out (Nat.le_refl _)⟩
set_option maxRecDepth 100000 in
set_option maxHeartbeats 8000000 in
theorem r6read_page (w : World) (v : Value) (b : List UInt8) (hv : Byt w v b) (h : okB b) (hk : (b.getD 3 0).toNat = 1) (r : Rt) (hr : toldR (b.drop 16) = r) (hwf : r.Wf) (q : Rt) (n : Nat)
    (hq : okR r ∧ rootB r = b ∧ q = r ∧ n = 0 ∨ okR r ∧ rootB r ≠ b ∧ q = zeroR ∧ n = 4 ∨ ¬ okR r ∧ q = zeroR ∧ n = 4) : Calls Tryd.prog 24 #[v] w (RtN w q n) := by
  have Z := rtZero
  obtain ⟨A, m, c, rfl, N, hnc, hcm⟩ := hv.form
  obtain ⟨w0, hw0⟩ : ∃ w0, w.alloc (.cells (rtV zeroR) 29) = w0 := ⟨_, rfl⟩
  have HX0 : Hid (RBox w0 w.heap.size zeroR) := hw0 ▸ RBox.new w zeroR
  have HB0 : Hid (Below w.heap.size w w0) := hw0 ▸ below_new w _
  have HV0 := Lib.hid (hv.below HB0.out)
  have HW0 := Lib.hid hw0
  have HL : Hid (b.length = 4096) := h.1.1
  have HR := Lib.hid hr
  have HF := Lib.hid hwf
  have HQ := Lib.hid hq
  clear hr hwf hq
  clear hv hw0
  go_enter Tryd.func24, Tryd.ntmps24
  go_wp2_with fail
  rw [HW0.out]
  refine (r5read_ok _ _ b HV0.out h).mono ?_
  rintro e w1 ⟨v1, rfl, hown1, hb1⟩
  obtain ⟨A1, n1, c1, rfl, N1, hnc1, hcm1⟩ := hown1.byt.form
  generalize ((numW b : Nat) : Int) = nm at *
  rw [hk]
  obtain ⟨kd, hkd⟩ : ∃ kd : Int, ((1 : Nat) : Int) = kd := ⟨_, rfl⟩
  have hk1 : kd = 1 := hkd.symm
  clear hkd hk
  subst hk1
  obtain ⟨w2, hw2⟩ : ∃ w2, w1.alloc (.cells (pageV 1 nm (.slice A1 n1 c1)) 62) = w2 := ⟨_, rfl⟩
  have hb12 : Below w1.heap.size w1 w2 := hw2 ▸ below_new w1 _
  have hb2 : Below w0.heap.size w0 w2 := hb1.trans (hb12.mono hb1.size)
  have HX2 := Lib.hid (HX0.out.below hb2)
  have HB2 := Lib.hid (HB0.out.trans (hb2.mono HB0.out.size))
  have HV2 := Lib.hid (HV0.out.below hb2)
  have HO2 := Lib.hid (hown1.byt.below hb12)
  obtain ⟨d0, d1, d2⟩ := (hw2 ▸ Box.new w1 1 nm (.slice A1 n1 c1) : Box w2 _ _ _ _).cells
  rw [← hw2] at d0 d1 d2
  have HW2 := Lib.hid hw2
  have HX2' : Hid (RBox (w1.alloc (.cells (pageV 1 nm (.slice A1 n1 c1)) 62)) w.heap.size zeroR) := by rw [Hid, hw2]; exact HX2.out
  have HB2' : Hid (Below w.heap.size w (w1.alloc (.cells (pageV 1 nm (.slice A1 n1 c1)) 62))) := by rw [Hid, hw2]; exact HB2.out
  clear hown1 hb1 hb12 hb2 hw2
  unfold pageV at *
  go_wp2_with fail
  clear d0 d1 d2
  rw [HW2.out]
  have HD : Hid ((b.drop 16).length = 4080) := by rw [Hid, List.length_drop, HL.out]
  generalize b.drop 16 = l at *
  refine (r1new_any _ _ l HO2.out (by have := HD.out; omega)).mono ?_
  rintro e w3 ⟨g, rfl, hg, hr3, hb3⟩
  obtain ⟨w4, hw4⟩ : ∃ w4, w3.alloc (.cells (rtV zeroR) 29) = w4 := ⟨_, rfl⟩
  have hb4 : Below w3.heap.size w3 w4 := hw4 ▸ below_new w3 _
  have hlt : w.heap.size < w2.heap.size := HX2.out.lt
  have S0 : Hid (RdSt6 w w4 (.slice A m c) b g w3.heap.size 0 l zeroR) := ⟨(HX2.out.below hb3).below hb4, hw4 ▸ RBox.new w3 zeroR, by simpa using hr3.below hb4, (HV2.out.below hb3).below hb4,
    HB2.out.trans ((hb3.trans (hb4.mono hb3.size)).mono HB2.out.size), by have := hb3.size; omega, by omega, by have := hr3.lt; omega⟩
  have HW4 := Lib.hid hw4
  clear hw4 hb4 hb3 hr3 hg hlt HX2 HB2 HV2 HO2 HX2' HB2' HX0 HB0 HV0 HW2
  go_wp2_with fail
  rw [HW4.out]
  clear HW4
  generalize w3.heap.size = qb at *
  refine (S0.out.call (by have := HD.out; omega) (by have := HD.out; omega) (by omega)).mono ?_
  rintro e u1 ⟨rfl, hs⟩
  have S1 := Lib.hid hs
  clear hs S0
  go_wp2_with fail
  refine (S1.out.call (by have := HD.out; omega) (by have := HD.out; omega) (by omega)).mono ?_
  rintro e u2 ⟨rfl, hs⟩
  have S2 := Lib.hid hs
  clear hs S1
  go_wp2_with fail
  refine (S2.out.call (by have := HD.out; omega) (by have := HD.out; omega) (by omega)).mono ?_
  rintro e u3 ⟨rfl, hs⟩
  have S3 := Lib.hid hs
  clear hs S2
  go_wp2_with fail
  refine (S3.out.call (by have := HD.out; omega) (by have := HD.out; omega) (by omega)).mono ?_
  rintro e u4 ⟨rfl, hs⟩
  have S4 := Lib.hid hs
  clear hs S3
  go_wp2_with fail
  refine (S4.out.call (by have := HD.out; omega) (by have := HD.out; omega) (by omega)).mono ?_
  rintro e u5 ⟨rfl, hs⟩
  have S5 := Lib.hid hs
  clear hs S4
  generalize hx0 : wAt l 0 = x0 at *
  generalize hx1 : wAt l 1 = x1 at *
  generalize hx2 : wAt l 2 = x2 at *
  generalize hx3 : wAt l 3 = x3 at *
  generalize hx4 : wAt l 4 = x4 at *
  generalize hx5 : wAt l 5 = x5 at *
  generalize hx6 : wAt l 6 = x6 at *
  generalize hx7 : wAt l 7 = x7 at *
  generalize hx8 : wAt l 8 = x8 at *
  have HT : Hid ((⟨x0, x1, x2, x3, x4, x5, x6, x7, x8⟩ : Rt) = r) := by
    rw [Hid, ← HR.out]
    unfold toldR
    rw [hx0, hx1, hx2, hx3, hx4, hx5, hx6, hx7, hx8]
  have HX10 := Lib.hid hx0
  have HX11 := Lib.hid hx1
  have HX12 := Lib.hid hx2
  have HX13 := Lib.hid hx3
  have HX14 := Lib.hid hx4
  have HX15 := Lib.hid hx5
  have HX16 := Lib.hid hx6
  have HX17 := Lib.hid hx7
  have HX18 := Lib.hid hx8
  clear hx0 hx1 hx2 hx3 hx4 hx5 hx6 hx7 hx8
  go_wp2_with (first | (with_reducible (show wpList _ _ _ (⟨_, Op.store 26 (Operand.tmp 36) _, _, _, _, _⟩ :: _) _ _); refine wpList_putRt rfl rfl _ _ rfl qb 0 x0 (by omega) rfl rfl (S5.out.box) ?_) | (with_reducible (show wpList _ _ _ (⟨_, Op.store 26 (Operand.tmp 37) _, _, _, _, _⟩ :: _) _ _); refine wpList_putRt rfl rfl _ _ rfl qb 1 x1 (by omega) rfl rfl ((S5.out.put 0 x0 (by omega)).box) ?_) | (with_reducible (show wpList _ _ _ (⟨_, Op.store 26 (Operand.tmp 38) _, _, _, _, _⟩ :: _) _ _); refine wpList_putRt rfl rfl _ _ rfl qb 2 x2 (by omega) rfl rfl (((S5.out.put 0 x0 (by omega)).put 1 x1 (by omega)).box) ?_) | (with_reducible (show wpList _ _ _ (⟨_, Op.store 26 (Operand.tmp 39) _, _, _, _, _⟩ :: _) _ _); refine wpList_putRt rfl rfl _ _ rfl qb 3 x3 (by omega) rfl rfl ((((S5.out.put 0 x0 (by omega)).put 1 x1 (by omega)).put 2 x2 (by omega)).box) ?_) | (with_reducible (show wpList _ _ _ (⟨_, Op.store 26 (Operand.tmp 40) _, _, _, _, _⟩ :: _) _ _); refine wpList_putRt rfl rfl _ _ rfl qb 4 x4 (by omega) rfl rfl (((((S5.out.put 0 x0 (by omega)).put 1 x1 (by omega)).put 2 x2 (by omega)).put 3 x3 (by omega)).box) ?_))
  have T5 := Lib.hid (((((S5.out.put 0 x0 (by omega)).put 1 x1 (by omega)).put 2 x2 (by omega)).put 3 x3 (by omega)).put 4 x4 (by omega))
  generalize ((((u5.setCell ⟨qb, 0, none⟩ (.int .u64 (x0 : Int))).setCell ⟨qb, 1, none⟩ (.int .u64 (x1 : Int))).setCell ⟨qb, 2, none⟩ (.int .u64 (x2 : Int))).setCell ⟨qb, 3, none⟩ (.int .u64 (x3 : Int))).setCell ⟨qb, 4, none⟩ (.int .u64 (x4 : Int)) = y5 at *
  clear S5
  refine wp_loop_rounds 5 ?_
  rw [rounds_succ]
  go_wp2_with fail
  have CC := T5.out.call (by have := HD.out; omega) (by have := HD.out; omega) (by omega)
  rw [HX15.out] at CC
  refine CC.mono ?_
  clear CC
  rintro e u6 ⟨rfl, hs⟩
  have T6 := Lib.hid (hs.put 5 x5 (by omega))
  go_wp2_with (with_reducible (show wpList _ _ _ (⟨_, Op.store 26 (Operand.tmp 49) _, _, _, _, _⟩ :: _) _ _); refine wpList_putRt rfl rfl _ _ rfl qb 5 x5 (by omega) rfl rfl (hs.box) ?_)
  generalize u6.setCell ⟨qb, 5, none⟩ (.int .u64 (x5 : Int)) = y6 at *
  clear hs T5
  rw [rounds_succ]
  go_wp2_with fail
  have CC := T6.out.call (by have := HD.out; omega) (by have := HD.out; omega) (by omega)
  rw [HX16.out] at CC
  refine CC.mono ?_
  clear CC
  rintro e u7 ⟨rfl, hs⟩
  have T7 := Lib.hid (hs.put 6 x6 (by omega))
  go_wp2_with (with_reducible (show wpList _ _ _ (⟨_, Op.store 26 (Operand.tmp 49) _, _, _, _, _⟩ :: _) _ _); refine wpList_putRt rfl rfl _ _ rfl qb 6 x6 (by omega) rfl rfl (hs.box) ?_)
  generalize u7.setCell ⟨qb, 6, none⟩ (.int .u64 (x6 : Int)) = y7 at *
  clear hs T6
  rw [rounds_succ]
  go_wp2_with fail
  have CC := T7.out.call (by have := HD.out; omega) (by have := HD.out; omega) (by omega)
  rw [HX17.out] at CC
  refine CC.mono ?_
  clear CC
  rintro e u8 ⟨rfl, hs⟩
  have T8 := Lib.hid (hs.put 7 x7 (by omega))
  go_wp2_with (with_reducible (show wpList _ _ _ (⟨_, Op.store 26 (Operand.tmp 49) _, _, _, _, _⟩ :: _) _ _); refine wpList_putRt rfl rfl _ _ rfl qb 7 x7 (by omega) rfl rfl (hs.box) ?_)
  generalize u8.setCell ⟨qb, 7, none⟩ (.int .u64 (x7 : Int)) = y8 at *
  clear hs T7
  rw [rounds_succ]
  go_wp2_with fail
  have CC := T8.out.call (by have := HD.out; omega) (by have := HD.out; omega) (by omega)
  rw [HX18.out] at CC
  refine CC.mono ?_
  clear CC
  rintro e u9 ⟨rfl, hs⟩
  have T9 := Lib.hid (hs.put 8 x8 (by omega))
  go_wp2_with (with_reducible (show wpList _ _ _ (⟨_, Op.store 26 (Operand.tmp 49) _, _, _, _, _⟩ :: _) _ _); refine wpList_putRt rfl rfl _ _ rfl qb 8 x8 (by omega) rfl rfl (hs.box) ?_)
  generalize u9.setCell ⟨qb, 8, none⟩ (.int .u64 (x8 : Int)) = y9 at *
  clear hs T8
  rw [rounds_succ]
  have TX : Hid (RBox y9 qb r) := by rw [Hid, ← HT.out]; exact T9.out.box
  go_wp2_with ((with_reducible (show wpList _ _ _ (⟨_, Op.load 29 _, _, _, _, _⟩ :: _) _ _); refine wpList_loadRt rfl _ rfl _ rfl _ (TX.out) ?_))
  rcases HQ.out with ⟨hok, hb, rfl, rfl⟩ | ⟨hok, hb, rfl, rfl⟩ | ⟨hok, rfl, rfl⟩
  · refine (r6bytes_ok _ q HF.out hok).mono ?_
    rintro e z1 ⟨v5, rfl, hown5, hb5⟩
    have HX5 := Lib.hid (T9.out.box0.below hb5)
    have HB5 := Lib.hid (T9.out.bel.trans (hb5.mono T9.out.bel.size))
    have HY5 := Lib.hid (TX.out.below hb5)
    have HV5 := Lib.hid (T9.out.byt.below hb5)
    have T1 := text_of hown5.byt
    have T2 := text_of HV5.out
    obtain ⟨A5, n5, c5, rfl, N5, hnc5, hcm5⟩ := hown5.byt.form
    rw [hb] at T1
    generalize (⟨b.toArray⟩ : ByteArray) = sb at *
    clear hown5 hb5 hb
    go_wp2_with (first | (with_reducible (show wpList _ _ _ (⟨_, Op.load 29 _, _, _, _, _⟩ :: _) _ _); refine wpList_loadRt rfl _ rfl _ rfl _ (HY5.out) ?_) | (with_reducible (show wpList _ _ _ (⟨_, Op.store 29 _ _, _, _, _, _⟩ :: _) _ _); refine wpList_storeRt rfl _ _ rfl _ rfl q rfl _ (HX5.out) ?_; intro w9 h2 h3 h4 h5))
    refine ret_rt2 _ rfl rfl rfl _ rfl h2 ?_
    exact ⟨rfl, h3 _ _ HB5.out (Nat.le_refl _)⟩
  · refine (r6bytes_ok _ r HF.out hok).mono ?_
    rintro e z1 ⟨v5, rfl, hown5, hb5⟩
    have HX5 := Lib.hid (T9.out.box0.below hb5)
    have HB5 := Lib.hid (T9.out.bel.trans (hb5.mono T9.out.bel.size))
    have HY5 := Lib.hid (TX.out.below hb5)
    have HV5 := Lib.hid (T9.out.byt.below hb5)
    have T1 := text_of hown5.byt
    have T2 := text_of HV5.out
    obtain ⟨A5, n5, c5, rfl, N5, hnc5, hcm5⟩ := hown5.byt.form
    have E := bytes_eq (rootB r) b
    rw [decide_eq_false hb] at E
    generalize (⟨b.toArray⟩ : ByteArray) = sb at *
    generalize (⟨(rootB r).toArray⟩ : ByteArray) = sa at *
    clear hown5 hb5 hb
    go_wp2_with (with_reducible (show wpList _ _ _ (⟨_, Op.store 29 _ _, _, _, _, _⟩ :: _) _ _); refine wpList_storeRt rfl _ _ rfl _ rfl zeroR rfl _ (HX5.out) ?_; intro w9 h2 h3 h4 h5)
    refine ret_rt2 _ rfl rfl rfl _ rfl h2 ?_
    exact ⟨rfl, h3 _ _ HB5.out (Nat.le_refl _)⟩
  · refine (r6bytes_bad _ r hok).mono ?_
    rintro e z1 ⟨rfl, hb5⟩
    have HX5 := Lib.hid (T9.out.box0.below hb5)
    have HB5 := Lib.hid (T9.out.bel.trans (hb5.mono T9.out.bel.size))
    clear hb5
    go_wp2_with (with_reducible (show wpList _ _ _ (⟨_, Op.store 29 _ _, _, _, _, _⟩ :: _) _ _); refine wpList_storeRt rfl _ _ rfl _ rfl zeroR rfl _ (HX5.out) ?_; intro w9 h2 h3 h4 h5)
    refine ret_rt2 _ rfl rfl rfl _ rfl h2 ?_
    exact ⟨rfl, h3 _ _ HB5.out (Nat.le_refl _)⟩
theorem r6read_any (w : World) (v : Value) (b : List UInt8) (hv : Byt w v b) : Calls Tryd.prog 24 #[v] w (RtN w (readQ b).1 (readQ b).2) := by
  by_cases h : okB b
  · by_cases h1 : (b.getD 3 0).toNat = 1
    · refine r6read_page w v b hv h h1 _ rfl (toldR_wf _) _ _ ?_
      by_cases hk : okR (toldR (b.drop 16))
      · by_cases he : rootB (toldR (b.drop 16)) = b
        · have := readQ_some (b := b) (r := toldR (b.drop 16)) (by unfold readRt; rw [if_pos ⟨h, hk, he⟩])
          rw [this]
          exact .inl ⟨hk, he, rfl, rfl⟩
        · have := readQ_none (b := b) (by unfold readRt; rw [if_neg (fun k => he k.2.2)])
          rw [this]
          exact .inr (.inl ⟨hk, he, rfl, rfl⟩)
      · have := readQ_none (b := b) (by unfold readRt; rw [if_neg (fun k => hk k.2.1)])
        rw [this]
        exact .inr (.inr ⟨hk, rfl, rfl⟩)
    · rw [readQ_none (b := b) (by unfold readRt; rw [if_neg (fun k => h1 (by rw [← k.2.2]; exact pageB_kind 1 _ _ (by omega)))])]
      exact r6read_kind w v b hv h h1
  · rw [readQ_none (readRt_none h)]
    exact r6read_not w v b hv h
end Go.Proofs.YteeljcnmgfjcmaaDoor

/-
  While the next root is written over the elder one, the one that counts is found, or the next one: plain. Conditions: a disk of 64 sectors without faults.
-/
namespace Go.Proofs.YteeljcnmgfjcmaaDoor
open Go.RowKit
set_option maxRecDepth 100000

theorem choose_left {a b : Rt} {y : Bool} : chooseR a b true y = (a, true) ∨ (y = true ∧ a.e < b.e ∧ chooseR a b true y = (b, true)) := by
  unfold chooseR
  cases y
  · left; simp
  · by_cases h : a.e < b.e
    · right; simp [h]
    · left; simp [h]
theorem choose_right {a b : Rt} {x : Bool} : chooseR a b x true = (b, true) ∨ (x = true ∧ ¬ a.e < b.e ∧ chooseR a b x true = (a, true)) := by
  unfold chooseR
  cases x
  · left; simp
  · by_cases h : a.e < b.e
    · left; simp [h]
    · right; simp [h]
theorem slotR_cases (b : List UInt8) (k n : Nat) : slotR b k n = zeroR ∨ readRt b = some (slotR b k n) := by
  cases h : readRt b with
  | none => exact .inl (slotR_none h)
  | some r =>
    by_cases hk : r.e % 2 = k ∧ r.p = n
    · right; rw [slotR_some h hk]
    · exact .inl (slotR_other h hk)
theorem page_holds {s : St} {m : Nat} (hC : s.C = []) : Holds s m ((s.B.drop (4096 * m)).take 4096) := by
  intro i hi
  unfold readB partB sectB
  rw [hC]
  show (s.B.drop (512 * (8 * m + i))).take 512 = _
  rw [List.drop_take, List.drop_drop, List.take_take, Nat.min_eq_left (by omega), show 4096 * m + 512 * i = 512 * (8 * m + i) by omega]
/-- Of two slots, one with a root that may be: it is found, or what the other slot's bytes are. -/
theorem find_two {s : St} {r : Rt} {b : List UInt8} (hF : s.F = none) (hs : secs s = 64) (hr : okR r) (hw : r.Wf) (hp : r.p = 8) (hb : b.length = 4096) (h1 : Holds s (r.e % 2) (rootB r)) (h2 : Holds s ((r.e + 1) % 2) b) :
    ∃ x, findP s = (x, 0, s) ∧ (x = r ∨ readRt b = some x) := by
  have hne := okR_ne hr
  have hp8 : secs s / 8 = 8 := by rw [hs]
  rcases Nat.mod_two_eq_zero_or_one r.e with h | h
  · rw [h] at h1
    rw [show (r.e + 1) % 2 = 1 by omega] at h2
    have hf := findP_holds hF (by omega) (rootB_len r) hb h1 h2
    rw [hp8] at hf
    unfold findR at hf
    rw [slotR_root hw hr ⟨h, hp⟩, show decide (r ≠ zeroR) = true from decide_eq_true hne] at hf
    rcases choose_left (a := r) (b := slotR b 1 8) (y := decide (slotR b 1 8 ≠ zeroR)) with hc | ⟨hy, _, hc⟩
    · rw [hc] at hf
      exact ⟨r, hf, .inl rfl⟩
    · rw [hc] at hf
      refine ⟨_, hf, .inr ?_⟩
      rcases slotR_cases b 1 8 with hz | hz
      · exact absurd hz (of_decide_eq_true hy)
      · exact hz
  · rw [h] at h1
    rw [show (r.e + 1) % 2 = 0 by omega] at h2
    have hf := findP_holds hF (by omega) hb (rootB_len r) h2 h1
    rw [hp8] at hf
    unfold findR at hf
    rw [slotR_root hw hr ⟨h, hp⟩, show decide (r ≠ zeroR) = true from decide_eq_true hne] at hf
    rcases choose_right (a := slotR b 0 8) (b := r) (x := decide (slotR b 0 8 ≠ zeroR)) with hc | ⟨hy, _, hc⟩
    · rw [hc] at hf
      exact ⟨r, hf, .inl rfl⟩
    · rw [hc] at hf
      refine ⟨_, hf, .inr ?_⟩
      rcases slotR_cases b 0 8 with hz | hz
      · exact absurd hz (of_decide_eq_true hy)
      · exact hz
/-- .. with both there, the later one. -/
theorem find_next {s : St} {r q : Rt} (hF : s.F = none) (hs : secs s = 64) (hr : okR r) (hw : r.Wf) (hp : r.p = 8) (hq : okR q) (hqw : q.Wf) (hqp : q.p = 8) (he : q.e = r.e + 1) (h1 : Holds s (r.e % 2) (rootB r)) (h2 : Holds s (q.e % 2) (rootB q)) :
    findP s = (q, 0, s) := by
  have hp8 : secs s / 8 = 8 := by rw [hs]
  have n1 : decide (r ≠ zeroR) = true := decide_eq_true (okR_ne hr)
  have n2 : decide (q ≠ zeroR) = true := decide_eq_true (okR_ne hq)
  rcases Nat.mod_two_eq_zero_or_one r.e with h | h
  · have h' : q.e % 2 = 1 := by omega
    rw [h] at h1
    rw [h'] at h2
    have hf := findP_holds hF (by omega) (rootB_len r) (rootB_len q) h1 h2
    rw [hp8] at hf
    unfold findR at hf
    rw [slotR_root hw hr ⟨h, hp⟩, slotR_root hqw hq ⟨h', hqp⟩, n1, n2] at hf
    rcases choose_right (a := r) (b := q) (x := true) with hc | ⟨_, hc, _⟩
    · rw [hc] at hf
      exact hf
    · omega
  · have h' : q.e % 2 = 0 := by omega
    rw [h] at h1
    rw [h'] at h2
    have hf := findP_holds hF (by omega) (rootB_len q) (rootB_len r) h2 h1
    rw [hp8] at hf
    unfold findR at hf
    rw [slotR_root hw hr ⟨h, hp⟩, slotR_root hqw hq ⟨h', hqp⟩, n1, n2] at hf
    rcases choose_left (a := q) (b := r) (y := true) with hc | ⟨_, hc, _⟩
    · rw [hc] at hf
      exact hf
    · omega
theorem safe_plain {A B N : Rt} (hA : okR A) (hB : okR B) (hN : okR N) (wB : B.Wf) (wN : N.Wf) (pA : A.p = 8) (pB : B.p = 8) (pN : N.p = 8) (eN : N.e = B.e + 1) (keep : List Bool) (torn bytes : Int) :
    ∃ s1 s2 s3 s4 s5 x, writeP (newS 64) A = (0, s1) ∧ writeP s1 B = (0, s2) ∧ flushR s2 = (0, s3) ∧ writeP s3 N = (0, s4) ∧ findP s4 = (N, 0, s4) ∧ crashS s4 keep torn bytes = s5 ∧ findP s5 = (x, 0, s5) ∧ x.Wf ∧ s5.B.length = 32768 ∧
      (x = B ∨ readRt ((s5.B.drop (4096 * (N.e % 2))).take 4096) = some x) := by
  have s64 : secs (newS 64) = 64 := secs_new 64
  obtain ⟨s1, a1, a2, a3, a4, _, _, _, _⟩ := writeP_holds (s := newS 64) (r := A) (OkSt.new (by omega) (by omega)) rfl hA (by rw [s64]; omega)
  rw [s64] at a4
  obtain ⟨s2, b1, b2, b3, b4, _, b6, _, _⟩ := writeP_holds a2 a3 hB (by rw [a4]; omega)
  rw [a4] at b4
  have ok2 := b2.tick
  have e3 : flushR s2 = (0, settleS (fun _ => 512) (tick s2)) := by unfold flushR; rw [b3]; rfl
  have hh : Holds (tick s2) (B.e % 2) (rootB B) := b6
  have h3 := flush_holds ok2 hh
  have l3 : Lies (settleS (fun _ => 512) (tick s2)) (B.e % 2) (rootB B) := fun i hi => (flush_sect ok2 _).trans (hh i hi)
  have ok3 := ok2.settle (fun _ => 512)
  have f3 : (settleS (fun _ => 512) (tick s2)).F = none := by show tickF s2.F = none; rw [b3]; rfl
  have c3 : secs (settleS (fun _ => 512) (tick s2)) = 64 := (secs_settle _ ok2).trans b4
  generalize settleS (fun _ => 512) (tick s2) = s3 at *
  obtain ⟨s4, d1, d2, d3, d4, d5, d6, d7, _⟩ := writeP_holds ok3 f3 hN (by rw [c3]; omega)
  rw [c3] at d4
  have h4 : Holds s4 (B.e % 2) (rootB B) := d7 _ _ (by omega) h3
  have l4 : Lies s4 (B.e % 2) (rootB B) := fun i hi => by rw [d5]; exact l3 i hi
  have h5 := crash_holds d2 (by rw [d4]; omega) l4 h4 keep torn bytes
  have c5 : secs (crashS s4 keep torn bytes) = 64 := (secs_crash d2 keep torn bytes).trans d4
  have ok5 := d2.crash keep torn bytes
  have n5 : (crashS s4 keep torn bytes).B.length = 32768 := by have := ok5.whole; rw [c5] at this; omega
  have hb' : (((crashS s4 keep torn bytes).B.drop (4096 * (N.e % 2))).take 4096).length = 4096 := by
    rw [List.length_take, List.length_drop, n5]; omega
  have p5 := page_holds (s := crashS s4 keep torn bytes) (m := N.e % 2) rfl
  rw [eN] at p5
  obtain ⟨x, x1, x2⟩ := find_two (s := crashS s4 keep torn bytes) (r := B) rfl c5 hB wB pB (by rw [← eN]; exact hb') h5 p5
  rw [← eN] at x2
  refine ⟨s1, s2, s3, s4, _, x, a1, b1, e3, d1, find_next d3 d4 hB wB pB hN wN pN eN h4 d6, rfl, x1, ?_, n5, x2⟩
  rcases x2 with rfl | h
  · exact wB
  · exact (readRt_some h).2.2.1
end Go.Proofs.YteeljcnmgfjcmaaDoor

/-
  Where RootSafe stands: its three roots and its crash in their variables. Conditions: none.
-/
namespace Go.Proofs.YteeljcnmgfjcmaaDoor
open Go.RowKit Go.Maps
set_option maxRecDepth 100000

/-- A crash, in its variable. -/
def CBox (w : World) (cb : Nat) (vk : Value) (torn bytes : Int) : Prop := w.heap[cb]? = some (.cells (crashV vk torn bytes) 50)
theorem CBox.cells {w : World} {cb : Nat} {vk : Value} {torn bytes : Int} (h : CBox w cb vk torn bytes) : w.cell? ⟨cb, 0, none⟩ = some vk ∧ w.cell? ⟨cb, 1, none⟩ = some (.int .i64 torn) ∧ w.cell? ⟨cb, 2, none⟩ = some (.int .i64 bytes) := by
  refine ⟨?_, ?_, ?_⟩ <;> (rw [cell_of_row _ _ _ _ _ _ h]; rfl)
structure Four (w u : World) (A B N : Rt) (vk : Value) (torn bytes : Int) : Prop where
  a : RBox u w.heap.size A
  b : RBox u (w.heap.size + 1) B
  n : RBox u (w.heap.size + 2) N
  c : CBox u (w.heap.size + 3) vk torn bytes
  bel : Below w.heap.size w u
section
variable {w u u' : World} {A B N : Rt} {vk : Value} {torn bytes : Int}
theorem Four.size (h : Four w u A B N vk torn bytes) : w.heap.size + 4 ≤ u.heap.size := (Array.getElem?_eq_some_iff.1 h.c).1
theorem Four.belowB {X : Nat} (h : Four w u A B N vk torn bytes) (hb : Below X u u') (hX : w.heap.size + 4 ≤ X) : Four w u' A B N vk torn bytes :=
  ⟨(hb.block _ (by omega)).trans h.a, (hb.block _ (by omega)).trans h.b, (hb.block _ (by omega)).trans h.n, (hb.block _ (by omega)).trans h.c, h.bel.trans (hb.mono (by omega))⟩
theorem Four.below (h : Four w u A B N vk torn bytes) (hb : Below u.heap.size u u') : Four w u' A B N vk torn bytes := h.belowB hb h.size
theorem Four.new (w : World) (A B N : Rt) (vk : Value) (torn bytes : Int) :
    Four w ((((w.alloc (.cells (rtV A) 29)).alloc (.cells (rtV B) 29)).alloc (.cells (rtV N) 29)).alloc (.cells (crashV vk torn bytes) 50)) A B N vk torn bytes := by
  generalize h1 : w.alloc (.cells (rtV A) 29) = w1
  generalize h2 : w1.alloc (.cells (rtV B) 29) = w2
  generalize h3 : w2.alloc (.cells (rtV N) 29) = w3
  generalize h4 : w3.alloc (.cells (crashV vk torn bytes) 50) = w4
  have s1 : w1.heap.size = w.heap.size + 1 := by rw [← h1]; simp
  have s2 : w2.heap.size = w.heap.size + 2 := by rw [← h2]; simp; omega
  have s3 : w3.heap.size = w.heap.size + 3 := by rw [← h3]; simp; omega
  have b1 : Below w.heap.size w w1 := h1 ▸ below_new w _
  have b2 : Below w1.heap.size w1 w2 := h2 ▸ below_new w1 _
  have b3 : Below w2.heap.size w2 w3 := h3 ▸ below_new w2 _
  have b4 : Below w3.heap.size w3 w4 := h4 ▸ below_new w3 _
  have xa : RBox w1 w.heap.size A := h1 ▸ RBox.new w A
  have xb : RBox w2 w1.heap.size B := h2 ▸ RBox.new w1 B
  have xn : RBox w3 w2.heap.size N := h3 ▸ RBox.new w2 N
  have xc : CBox w4 w3.heap.size vk torn bytes := h4 ▸ heap_alloc_new w3 _
  have ya : RBox w4 w.heap.size A := ((xa.below b2).below b3).below b4
  have yb : RBox w4 w1.heap.size B := (xb.below b3).below b4
  have yn : RBox w4 w2.heap.size N := xn.below b4
  rw [s1] at yb
  rw [s2] at yn
  rw [s3] at xc
  exact ⟨ya, yb, yn, xc, b1.trans (((b2.trans (b3.mono b2.size)).trans (b4.mono (Nat.le_trans b2.size b3.size))).mono b1.size)⟩
theorem RBox.other {q p i : Nat} {r : Rt} (h : RBox u p r) (v : Value) (hne : p ≠ q) : RBox (u.setCell ⟨q, i, none⟩ v) p r := by
  unfold RBox
  rw [heap_cell_other hne]
  exact h
theorem CBox.other {q p i : Nat} (h : CBox u p vk torn bytes) (v : Value) (hne : p ≠ q) : CBox (u.setCell ⟨q, i, none⟩ v) p vk torn bytes := by
  unfold CBox
  rw [heap_cell_other hne]
  exact h
theorem Four.putA (h : Four w u A B N vk torn bytes) (i x : Nat) (hi : i < 9) : Four w (u.setCell ⟨w.heap.size, i, none⟩ (.int .u64 (x : Int))) (setR A i x) B N vk torn bytes :=
  ⟨h.a.put i x hi, h.b.other _ (by omega), h.n.other _ (by omega), h.c.other _ (by omega), h.bel.setCell (p := ⟨w.heap.size, i, none⟩) (Nat.le_refl _) _⟩
theorem Four.putB (h : Four w u A B N vk torn bytes) (i x : Nat) (hi : i < 9) : Four w (u.setCell ⟨w.heap.size + 1, i, none⟩ (.int .u64 (x : Int))) A (setR B i x) N vk torn bytes :=
  ⟨h.a.other _ (by omega), h.b.put i x hi, h.n.other _ (by omega), h.c.other _ (by omega), h.bel.setCell (p := ⟨w.heap.size + 1, i, none⟩) (by simp) _⟩
theorem Four.putN (h : Four w u A B N vk torn bytes) (i x : Nat) (hi : i < 9) : Four w (u.setCell ⟨w.heap.size + 2, i, none⟩ (.int .u64 (x : Int))) A B (setR N i x) vk torn bytes :=
  ⟨h.a.other _ (by omega), h.b.other _ (by omega), h.n.put i x hi, h.c.other _ (by omega), h.bel.setCell (p := ⟨w.heap.size + 2, i, none⟩) (by simp) _⟩
end
/-- .. and a disk in blocks of its own, from X0 on. -/
structure Saf (w u : World) (X0 : Nat) (A B N : Rt) (vk : Value) (torn bytes : Int) (S : Nat → Prop) (g : Nat) (s : St) : Prop where
  four : Four w u A B N vk torn bytes
  dsk : Dsk u S g s
  low : ∀ k, S k → X0 ≤ k
  hx : w.heap.size + 4 ≤ X0
  hz : X0 ≤ u.heap.size
section
variable {w u u' : World} {X0 : Nat} {A B N : Rt} {vk : Value} {torn bytes : Int} {S : Nat → Prop} {g : Nat} {s s' : St}
theorem Saf.below (h : Saf w u X0 A B N vk torn bytes S g s) (hb : Below u.heap.size u u') : Saf w u' X0 A B N vk torn bytes S g s :=
  ⟨h.four.below hb, h.dsk.below hb, h.low, h.hx, Nat.le_trans h.hz hb.size⟩
theorem Saf.trn (h : Saf w u X0 A B N vk torn bytes S g s) {S' : Nat → Prop} (hd : Dsk u' S' g s') (ht : Trn S u u') (hl : ∀ k, S' k → X0 ≤ k) : Saf w u' X0 A B N vk torn bytes S' g s' :=
  ⟨h.four.belowB (ht.below h.hz h.low) h.hx, hd, hl, h.hx, Nat.le_trans h.hz ht.size⟩
theorem Saf.done {r : Nat × St} {e : Ending} (h : Saf w u X0 A B N vk torn bytes S g s) (hd : Done u S g r e u') :
    e = .returned (.int .i64 ((r.1 : Nat) : Int)) ∧ Saf w u' X0 A B N vk torn bytes (more S u u') g r.2 ∧ Trn S u u' := by
  obtain ⟨h1, h2, h3⟩ := hd
  exact ⟨h1, h.trn h2 h3 (fun k hk => hk.elim (h.low k) (fun q => Nat.le_trans h.hz q.1)), h3⟩
theorem Saf.put {X : Nat} (h : Saf w u X0 A B N vk torn bytes S g s) (ht : Trn (fun k => k = X) u u') (hX : X0 ≤ X) (hS : ¬ S X) : Saf w u' X0 A B N vk torn bytes S g s :=
  ⟨h.four.belowB (below_of_trn ht hX h.hz) h.hx, h.dsk.trn ht (fun _ hk e => hS (e ▸ hk)), h.low, h.hx, Nat.le_trans h.hz ht.size⟩
theorem Saf.bel (h : Saf w u X0 A B N vk torn bytes S g s) : Below w.heap.size w u := h.four.bel
end
/-- The operation that writes one number of a root. -/
theorem wpList_putRtE {ops : Array Oper} {rest : List Oper} {o : Oper} {a : Act} {w : World} {Q : Exit → Act → World → Prop} (hgd : o.guard = none) (hd : o.dst = none) (x y : Operand) (ho : o.op = .store 26 x y) (g i n : Nat) (hi : i < 9) (hx : a.eval x = .pointer (some ⟨g, i, none⟩)) (hy : a.eval y = .int .u64 (n : Int)) {r : Rt} (h : RBox w g r)
    (hK : ∀ u, w.setCell ⟨g, i, none⟩ (.int .u64 (n : Int)) = u → wpList Tryd.prog ops Q rest a u) : wpList Tryd.prog ops Q (o :: rest) a w := wpList_putRt hgd hd x y ho g i n hi hx hy h (hK _ rfl)
theorem exec_page {o : Oper} {a : Act} {u : World} (x y : Operand) (ho : o.op = .binOp .mul 3 x y 3) (k : Nat) (hk : k < 2) (hx : a.eval x = .int .i64 4096) (hy : a.eval y = .int .i64 (k : Int)) :
    (execOp a.eval o).run Tryd.prog u = .ok (.value (.int .i64 ((4096 * k : Nat) : Int))) u := by
  obtain ⟨dst, op, type, pos, after, guard⟩ := o
  simp only at ho
  subst ho
  generalize a.eval = ρ at *
  rcases (show k = 0 ∨ k = 1 by omega) with rfl | rfl <;> go_simp <;> rfl
theorem exec_page2 {o : Oper} {a : Act} {u : World} (x y : Operand) (ho : o.op = .binOp .add 3 x y 3) (k : Nat) (hk : k < 2) (hx : a.eval x = .int .i64 ((4096 * k : Nat) : Int)) (hy : a.eval y = .int .i64 4096) :
    (execOp a.eval o).run Tryd.prog u = .ok (.value (.int .i64 ((4096 * k + 4096 : Nat) : Int))) u := by
  obtain ⟨dst, op, type, pos, after, guard⟩ := o
  simp only at ho
  subst ho
  generalize a.eval = ρ at *
  rcases (show k = 0 ∨ k = 1 by omega) with rfl | rfl <;> go_simp <;> rfl
theorem exec_cut {o : Oper} {a : Act} {v vy vz v1 : Value} (hr : ∀ W, (Instr.slice 22 v (some vy) (some vz) none).run Tryd.prog W = .ok v1 W) (x y z : Operand) (ho : o.op = .slice 22 x (some y) (some z) none) (hx : a.eval x = v) (hy : a.eval y = vy) (hz : a.eval z = vz) (W : World) :
    (execOp a.eval o).run Tryd.prog W = .ok (.value v1) W := by
  obtain ⟨dst, op, type, pos, after, guard⟩ := o
  simp only at ho
  subst ho
  have hr' := hr W
  generalize a.eval = ρ at *
  subst hx hy hz
  go_simp
theorem cut_any {A A5 : Option Addr} {n c n5 c5 a b : Nat} {l : List UInt8} (hr : ∀ W, (Instr.slice 22 (.slice A n c) (some (.int .i64 (a : Int))) (some (.int .i64 (b : Int))) none).run Tryd.prog W = .ok (.slice A5 n5 c5) W) (hab : a ≤ b) (hb : b ≤ n) :
    ∀ u, Byt u (.slice A n c) l → Byt u (.slice A5 n5 c5) ((l.drop a).take (b - a)) := by
  intro u h
  obtain ⟨A1, n1, c1, r1, b1, _⟩ := h.midrun a b hab hb
  have e := (r1 u).symm.trans (hr u)
  injection e with e
  rw [← e]
  exact b1
/-- A root for a disk of 64 sectors, of an Epoch. -/
def atR (r : Rt) (e : Nat) : Rt := setR (setR r 0 e) 1 8
theorem atR_wf {r : Rt} {e : Nat} (h : r.Wf) (he : e < 18446744073709551616) : (atR r e).Wf :=
  ⟨he, (by decide : 8 < 18446744073709551616), h.t, h.s, h.l, h.a, h.b, h.c, h.d⟩
theorem atR_e (r : Rt) (e : Nat) : (atR r e).e = e := rfl
theorem atR_p (r : Rt) (e : Nat) : (atR r e).p = 8 := rfl
end Go.Proofs.YteeljcnmgfjcmaaDoor

