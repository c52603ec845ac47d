/-
  The texts RtQ, RtR, RtS, RtT, RtU in one. Conditions: as each part says.
-/
import Derived.Test.YteeljcnmgfjcmaaGreatDoorCRtP
import Derived.Test.YteeljcnmgfjcmaaGreatDoorMg6
/-
  The document's answer for roots (tallymanref06): head, Check, Slot, Choose by their contracts. Conditions: none.
-/
namespace Go.Proofs.YteeljcnmgfjcmaaGreatDoor
open Go.RowKit Go.Maps
set_option maxRecDepth 100000

set_option maxHeartbeats 2000000 in
theorem r6head_any (n p : Nat) (w : World) : Calls Tryz.prog 68 #[.int .u64 (n : Int), .int .u64 (p : Int)] w fun e w' => e = .returned (.bool (decide (headR n p))) ∧ w = w' := by
  by_cases h0 : n = 0
  · have hd : decide (headR n p) = true := decide_eq_true (.inl h0)
    rw [hd]
    have h0' : ((n : Int) == 0) = true := by simp; omega
    clear hd h0
    go_enter Tryz.func68, Tryz.ntmps68
    go_wp2_with fail
    go_ret
    exact ⟨rfl, rfl⟩
  · have h0' : ((n : Int) == 0) = false := by simp; omega
    by_cases h2 : (2 : Int) ≤ (n : Int)
    · by_cases hp : (n : Int) < (p : Int)
      · have hd : decide (headR n p) = true := decide_eq_true (.inr ⟨by omega, by omega⟩)
        rw [hd]
        clear hd h0
        go_enter Tryz.func68, Tryz.ntmps68
        go_wp2_with fail
        go_ret
        exact ⟨rfl, rfl⟩
      · have hd : decide (headR n p) = false := decide_eq_false (by unfold headR; omega)
        rw [hd]
        clear hd h0
        go_enter Tryz.func68, Tryz.ntmps68
        go_wp2_with fail
        go_ret
        exact ⟨rfl, rfl⟩
    · have hd : decide (headR n p) = false := decide_eq_false (by unfold headR; omega)
      rw [hd]
      clear hd h0
      go_enter Tryz.func68, Tryz.ntmps68
      go_wp2_with fail
      go_ret
      exact ⟨rfl, rfl⟩
theorem r6slot_any (w : World) (r : Rt) : Calls Tryz.prog 27 #[.agg (rtV r)] w fun e w' => e = .returned (.int .i64 ((r.e % 2 : Nat) : Int)) ∧ Below w.heap.size w w' := by
  have HB := Lib.hid (below_new w (.cells (rtV r) 39))
  unfold rtV at *
  go_enter Tryz.func27, Tryz.ntmps27
  go_wp2_with fail
  go_ret
  exact ⟨ret_int (by omega), HB.out⟩
set_option maxHeartbeats 2000000 in
theorem r6check_any (w : World) (r : Rt) : Calls Tryz.prog 46 #[.agg (rtV r)] w (IntE w (checkN r)) := by
  have HB := Lib.hid (below_new w (.cells (rtV r) 39))
  have HT := Lib.hid (fun W => r6head_any r.t r.p W)
  have HS := Lib.hid (fun W => r6head_any r.s r.p W)
  unfold IntE
  generalize hq : checkN r = q
  unfold checkN at hq
  unfold rtV at *
  by_cases h0 : (r.e : Int) < 1
  · obtain rfl : q = 2 := by rw [if_neg (fun h => by have := h.1; omega)] at hq; exact hq.symm
    clear hq
    go_enter Tryz.func46, Tryz.ntmps46
    go_wp2_with fail
    go_ret
    exact ⟨rfl, HB.out⟩
  · by_cases h1 : (r.p : Int) < 8
    · obtain rfl : q = 2 := by rw [if_neg (fun h => by have := h.2.1.1; omega)] at hq; exact hq.symm
      clear hq
      go_enter Tryz.func46, Tryz.ntmps46
      go_wp2_with fail
      go_ret
      exact ⟨rfl, HB.out⟩
    · by_cases h2 : (4096 : Int) < (r.p : Int)
      · obtain rfl : q = 2 := by rw [if_neg (fun h => by have := h.2.1.2; omega)] at hq; exact hq.symm
        clear hq
        go_enter Tryz.func46, Tryz.ntmps46
        go_wp2_with fail
        go_ret
        exact ⟨rfl, HB.out⟩
      · by_cases h3 : headR r.t r.p
        · have H3 : Hid (decide (headR r.t r.p) = true) := decide_eq_true h3
          have H3x := Lib.hid h3
          clear h3
          by_cases h4 : headR r.s r.p
          · have H4 : Hid (decide (headR r.s r.p) = true) := decide_eq_true h4
            have H4x := Lib.hid h4
            clear h4
            by_cases h5 : (65536 : Int) < (r.l : Int)
            · obtain rfl : q = 2 := by rw [if_neg (fun h => by have := h.2.2.2.2; omega)] at hq; exact hq.symm
              clear hq
              go_enter Tryz.func46, Tryz.ntmps46
              go_wp2_with fail
              refine (HT.out _).mono ?_
              rintro e w1 ⟨rfl, rfl⟩
              rw [H3.out]
              go_wp2_with fail
              refine (HS.out _).mono ?_
              rintro e w2 ⟨rfl, rfl⟩
              rw [H4.out]
              go_wp2_with fail
              go_ret
              exact ⟨rfl, HB.out⟩
            · obtain rfl : q = 0 := by rw [if_pos ⟨by omega, ⟨by omega, by omega⟩, H3x.out, H4x.out, by omega⟩] at hq; exact hq.symm
              clear hq
              go_enter Tryz.func46, Tryz.ntmps46
              go_wp2_with fail
              refine (HT.out _).mono ?_
              rintro e w1 ⟨rfl, rfl⟩
              rw [H3.out]
              go_wp2_with fail
              refine (HS.out _).mono ?_
              rintro e w2 ⟨rfl, rfl⟩
              rw [H4.out]
              go_wp2_with fail
              go_ret
              exact ⟨rfl, HB.out⟩
          · have H4 : Hid (decide (headR r.s r.p) = false) := decide_eq_false h4
            have hn := h4
            obtain rfl : q = 2 := by rw [if_neg (fun h => hn h.2.2.2.1)] at hq; exact hq.symm
            clear hq hn h4
            go_enter Tryz.func46, Tryz.ntmps46
            go_wp2_with fail
            refine (HT.out _).mono ?_
            rintro e w1 ⟨rfl, rfl⟩
            rw [H3.out]
            go_wp2_with fail
            refine (HS.out _).mono ?_
            rintro e w2 ⟨rfl, rfl⟩
            rw [H4.out]
            go_wp2_with fail
            go_ret
            exact ⟨rfl, HB.out⟩
        · have H3 : Hid (decide (headR r.t r.p) = false) := decide_eq_false h3
          have hn := h3
          obtain rfl : q = 2 := by rw [if_neg (fun h => hn h.2.2.1)] at hq; exact hq.symm
          clear hq hn h3
          go_enter Tryz.func46, Tryz.ntmps46
          go_wp2_with fail
          refine (HT.out _).mono ?_
          rintro e w1 ⟨rfl, rfl⟩
          rw [H3.out]
          go_wp2_with fail
          go_ret
          exact ⟨rfl, HB.out⟩
set_option maxHeartbeats 2000000 in
theorem r6choose_any (w : World) (a b : Rt) (x y : Bool) : Calls Tryz.prog 33 #[.agg (rtV a), .agg (rtV b), .bool x, .bool y] w (ChoE w (chooseR a b x y)) := by
  have Z := rtZero
  obtain ⟨w1, hw1⟩ : ∃ w1, w.alloc (.cells (rtV a) 39) = w1 := ⟨_, rfl⟩
  obtain ⟨w2, hw2⟩ : ∃ w2, w1.alloc (.cells (rtV b) 39) = w2 := ⟨_, rfl⟩
  obtain ⟨w3, hw3⟩ : ∃ w3, w2.alloc (.cells (rtV zeroR) 39) = w3 := ⟨_, rfl⟩
  have s1 : w1.heap.size = w.heap.size + 1 := by rw [← hw1]; simp
  have s2 : w2.heap.size = w.heap.size + 2 := by rw [← hw2]; simp [s1]
  have hb1 : Below w.heap.size w w1 := hw1 ▸ below_new w _
  have hb2 : Below w1.heap.size w1 w2 := hw2 ▸ below_new w1 _
  have hb3 : Below w2.heap.size w2 w3 := hw3 ▸ below_new w2 _
  have hA : RBox w3 w.heap.size a := (((hw1 ▸ RBox.new w a : RBox w1 _ _).below hb2).below hb3)
  have hB : RBox w3 (w.heap.size + 1) b := by
    have := ((hw2 ▸ RBox.new w1 b : RBox w2 _ _).below hb3)
    rwa [s1] at this
  have hZ : RBox w3 (w.heap.size + 2) zeroR := by
    have := (hw3 ▸ RBox.new w2 zeroR : RBox w3 _ _)
    rwa [s2] at this
  have hbl : Below w.heap.size w w3 := hb1.trans ((hb2.trans (hb3.mono hb2.size)).mono hb1.size)
  have hW : w3 = ((w.alloc (.cells (rtV a) 39)).alloc (.cells (rtV b) 39)).alloc (.cells (rtV zeroR) 39) := by rw [hw1, hw2, hw3]
  rw [hW] at hA hB hZ hbl
  have HA := Lib.hid hA
  have HB := Lib.hid hB
  have HZ := Lib.hid hZ
  have HBL := Lib.hid hbl
  have c0 := hA.cells.1
  have c1 := hB.cells.1
  clear hA hB hZ hb1 hb2 hb3 hw1 hw2 hw3 s1 s2 hW hbl
  generalize hq : chooseR a b x y = q
  unfold chooseR at hq
  unfold ChoE
  cases x
  · cases y
    · obtain rfl : (zeroR, false) = q := by simpa using hq
      clear hq
      go_enter Tryz.func33, Tryz.ntmps33
      go_wp2_with (first
        | (refine wpList_storeRt rfl _ _ rfl _ rfl zeroR rfl _ HZ.out ?_; intro w2 h2 h3 h4 h5))
      refine ret_rt2 _ rfl rfl rfl _ rfl h2 ?_
      exact ⟨rfl, h3 _ _ HBL.out (by omega)⟩
    · obtain rfl : (b, true) = q := by simpa using hq
      clear hq
      go_enter Tryz.func33, Tryz.ntmps33
      go_wp2_with (first
        | (refine wpList_loadRt rfl _ rfl _ rfl _ HB.out ?_)
        | (refine wpList_storeRt rfl _ _ rfl _ rfl b rfl _ HZ.out ?_; intro w2 h2 h3 h4 h5))
      refine ret_rt2 _ rfl rfl rfl _ rfl h2 ?_
      exact ⟨rfl, h3 _ _ HBL.out (by omega)⟩
  · cases y
    · obtain rfl : (a, true) = q := by simpa using hq
      clear hq
      go_enter Tryz.func33, Tryz.ntmps33
      go_wp2_with (first
        | (refine wpList_loadRt rfl _ rfl _ rfl _ HA.out ?_)
        | (refine wpList_storeRt rfl _ _ rfl _ rfl a rfl _ HZ.out ?_; intro w2 h2 h3 h4 h5))
      refine ret_rt2 _ rfl rfl rfl _ rfl h2 ?_
      exact ⟨rfl, h3 _ _ HBL.out (by omega)⟩
    · by_cases hlt : (a.e : Int) < (b.e : Int)
      · obtain rfl : (b, true) = q := by rw [if_pos ⟨rfl, rfl, by omega⟩] at hq; exact hq
        clear hq
        have hge : ¬ (b.e : Int) ≤ (a.e : Int) := by omega
        go_enter Tryz.func33, Tryz.ntmps33
        go_wp2_with (first
          | (refine wpList_loadRt rfl _ rfl _ rfl _ HB.out ?_)
          | (refine wpList_storeRt rfl _ _ rfl _ rfl b rfl _ HZ.out ?_; intro w2 h2 h3 h4 h5))
        refine ret_rt2 _ rfl rfl rfl _ rfl h2 ?_
        exact ⟨rfl, h3 _ _ HBL.out (by omega)⟩
      · obtain rfl : (a, true) = q := by rw [if_neg (fun h => hlt (by have := h.2.2; omega)), if_pos rfl] at hq; exact hq
        clear hq
        have hge : (b.e : Int) ≤ (a.e : Int) := by omega
        go_enter Tryz.func33, Tryz.ntmps33
        go_wp2_with (first
          | (refine wpList_loadRt rfl _ rfl _ rfl _ HA.out ?_)
          | (refine wpList_storeRt rfl _ _ rfl _ rfl a rfl _ HZ.out ?_; intro w2 h2 h3 h4 h5))
        refine ret_rt2 _ rfl rfl rfl _ rfl h2 ?_
        exact ⟨rfl, h3 _ _ HBL.out (by omega)⟩
end Go.Proofs.YteeljcnmgfjcmaaGreatDoor

/-
  The document's reader (tallymanref01.Reader): words of eight bytes. Conditions: there are eight bytes.
-/
namespace Go.Proofs.YteeljcnmgfjcmaaGreatDoor
open Go.RowKit Go.Maps
set_option maxRecDepth 100000

theorem rbyt_reader {w w' : World} {v : Value} {l m : List UInt8} {g : Nat} (h : Byt w v l) (hr : RRdr w g m) (hg : w.grownBy w' (some g)) : Byt w' v l := by
  obtain ⟨A, c, c0, c1, f0, hb, hg2, hnb, hlc, hcm⟩ := rcells hr
  refine h.keep hg.size (fun b hb hu => hg.block b hb ?_)
  intro e
  obtain rfl : b = g := by simpa using e
  exact hnb hu
theorem RRdr.lt {w : World} {g : Nat} {l : List UInt8} (h : RRdr w g l) : g < w.heap.size := by
  obtain ⟨A, c, h1, h2⟩ := h
  exact (Array.getElem?_eq_some_iff.1 h1).1
theorem RRdr.setRest {w : World} {g : Nat} {l m : List UInt8} {A : Option Addr} {c : Nat} (h : RRdr w g l) (hm : Byt w (.slice A m.length c) m) : RRdr (w.setCell ⟨g, 0, none⟩ (.slice A m.length c)) g m := by
  have h0 := h
  obtain ⟨A', c', h1, h2⟩ := h
  refine ⟨A, c, ?_, rbyt_reader hm h0 (grown_set w g 0 _)⟩
  simp [World.setCell, Array.getElem?_modify, h1]
/-- What take of eight bytes leaves. -/
def RTook8 (w : World) (g : Nat) (l : List UInt8) (e : Ending) (w' : World) : Prop :=
  ∃ v, e = .returned (.tuple #[v, .bool true]) ∧ Byt w' v (l.take 8) ∧ RRdr w' g (l.drop 8) ∧ w.grownBy w' (some g)
set_option maxHeartbeats 1000000 in
theorem rtake8_is (w : World) (g : Nat) (l : List UInt8) (hr : RRdr w g l) (hl : 8 ≤ l.length) (hlen : l.length ≤ 10000) :
    Calls Tryz.prog 77 #[.pointer (some ⟨g, 0, none⟩), .int .i64 8] w (RTook8 w g l) := by
  obtain ⟨i0, hi0, hz0, hz1, hz2⟩ := info_parts uinfo
  obtain ⟨A, c, c0, c1, f0, hb, hg, hnb, hlc, hcm⟩ := rcells hr
  obtain ⟨m, hm⟩ : ∃ m, l.length = m := ⟨_, rfl⟩
  rw [hm] at c0 hb hlc hl hlen
  have hm8 : ¬ (m : Int) < 8 := by omega
  obtain ⟨A1, n1, c1', r1, b1, N1, hN1a, hN1b⟩ := hb.uptorun 50 elemByte sizeByte 8 (by omega) .i64
  have r1' : ∀ W, (Instr.slice 50 (.slice A m c) none (some (.int .i64 8)) none).run Tryz.prog W = .ok (.slice A1 n1 c1') W := r1
  obtain ⟨A2, n2, c2, r2, b2, N2, hN2a, hN2b⟩ := hb.cutrun 50 elemByte sizeByte 8 (by omega) .i64
  have r2' : ∀ W, (Instr.slice 50 (.slice A m c) (some (.int .i64 8)) none none).run Tryz.prog W = .ok (.slice A2 n2 c2) W := r2
  have HE := Lib.hid (Own.empty w)
  have B1 := Lib.hid b1
  have B2 := Lib.hid b2
  have HR := Lib.hid hr
  have HG := Lib.hid hg
  have HM := Lib.hid hm
  have HC : Hid (∀ w1, Below w.heap.size w w1 → w1.cell? ⟨g, 0, none⟩ = some (.slice A m c)) := fun w1 h => (h.cell (p := ⟨g, 0, none⟩) hg).trans c0
  have HF : Hid (∀ w1, Below w.heap.size w w1 → w1.frozen? ⟨g, 0, none⟩ = false) := fun w1 h => (h.frozen (p := ⟨g, 0, none⟩) hg).trans f0
  have HT : Hid ((l.take 8).length = 8) := by rw [Hid, List.length_take]; omega
  clear hr hb hg hnb r1 r2 b1 b2 hm hN1a hN1b hN2a hN2b
  obtain ⟨t, ht⟩ : ∃ t, l.take 8 = t := ⟨_, rfl⟩
  obtain ⟨d, hd⟩ : ∃ d, l.drop 8 = d := ⟨_, rfl⟩
  rw [ht] at B1 HT
  rw [hd] at B2
  unfold RTook8
  rw [ht, hd]
  clear ht hd
  go_enter Tryz.func77, Tryz.ntmps77
  have q0 := HC.out _ (below_new w (.cells #[] 5))
  go_wp2_with (at_builtin; refine wpList_app _ rfl (.tmp 29) (.tmp 35) _ rfl w.heap.size 5 i0 _ Tryz.underlying50 hi0 hz0 hz1 hz2 rfl _ [] rfl HE.out _ t rfl (B1.out.alloc _) (by simp; have := HT.out; omega) (by simp) ?_; intro v1 w1 hown1 hg1 hat1; have hb1 := below_own (below_new w _) (by simp) HE.out hg1; rw [List.nil_append] at hown1; have d0 := HC.out w1 hb1; have e0 := HF.out w1 hb1; obtain ⟨A3, n3, c3, rfl, N3, hnc3, hcm3⟩ := hown1.byt.form; clear hg1 hat1)
  go_ret2
  have hb2 := B2.out.below hb1
  obtain ⟨A4, c4, e4, _⟩ := B2.out
  injection e4 with e5 e6 e7
  subst e5 e7
  rw [e6] at hb2 ⊢
  exact ⟨_, rfl, rbyt_reader hown1.byt (HR.out.below hb1) (grown_set _ _ _ _), (HR.out.below hb1).setRest hb2, grown_trans (grown_below hb1) (grown_set _ _ _ _)⟩
theorem wrap_add8 (k a x : Nat) (hk : k < 8) (hx : x < 256) (ha : a < 256 ^ k) : IntKind.u64.wrap ((a : Int) + IntKind.u64.wrap ((x : Int) * 2 ^ (8 * k))) = ((a + x * 256 ^ k : Nat) : Int) := by
  have hk8 : k = 0 ∨ k = 1 ∨ k = 2 ∨ k = 3 ∨ k = 4 ∨ k = 5 ∨ k = 6 ∨ k = 7 := by omega
  rcases hk8 with rfl | rfl | rfl | rfl | rfl | rfl | rfl | rfl <;> simp only [IntKind.wrap_u64] <;> simp at ha ⊢ <;> omega
/-- What a word of eight bytes leaves. -/
def RNext (w : World) (g n : Nat) (l : List UInt8) (e : Ending) (w' : World) : Prop := e = .returned (.int .u64 (n : Int)) ∧ RRdr w' g l ∧ w.grownBy w' (some g)
set_option maxRecDepth 100000 in
set_option maxHeartbeats 2000000 in
theorem rrword8_is (w : World) (g : Nat) (l : List UInt8) (hr : RRdr w g l) (hl : 8 ≤ l.length) (hlen : l.length ≤ 10000) :
    Calls Tryz.prog 59 #[.pointer (some ⟨g, 0, none⟩), .int .i64 8] w (RNext w g (wAt l 0) (l.drop 8)) := by
  obtain ⟨A, c, c0, c1, f0, hb, hg, hnb, hlc, hcm⟩ := rcells hr
  have HT := Lib.hid (rtake8_is w g l hr hl hlen)
  have hl8 : (l.take 8).length = 8 := by rw [List.length_take]; omega
  have hw : wAt l 0 = wordN (l.take 8) := by unfold wAt; simp
  rw [hw]
  unfold RTook8 at HT
  unfold RNext
  generalize l.drop 8 = d at *
  generalize l.take 8 = t at *
  clear hr hb hg hnb f0 c0 hl hlen hw
  go_enter Tryz.func59, Tryz.ntmps59
  go_wp2_with fail
  refine HT.out.mono ?_
  rintro e w1 ⟨v1, rfl, hb1, hr1, hg1⟩
  have HB := Lib.hid hb1
  have HR := Lib.hid hr1
  have HG := Lib.hid hg1
  obtain ⟨A1, n1, c1', rfl, N1, hnc1, hcm1⟩ := hb1.form
  obtain rfl : n1 = 8 := N1.out.trans hl8
  have HL := Lib.hid hl8
  clear hb1 hr1 hg1 N1 c1 hl8
  go_wp2_with fail
  go_loop [7, 8] (fun n i => RWRel t n i) (fun _ i => 8 - (intOf i).toNat)
  case atStart => exact ⟨0, by omega, rfl, rfl⟩
  case round =>
    obtain ⟨k, hk, rfl, rfl⟩ := hrel
    have hl4 := HL.out
    by_cases hlt : k < t.length
    · obtain ⟨b, off, rfl, hb, hc⟩ := HB.out.at hlt
      have hcell := hc k hlt
      have hst := word_add t k hlt
      have hx : t[k].toNat < 256 := t[k].toNat_lt
      have ha := wordN_lt (t.take k)
      rw [List.length_take, Nat.min_eq_left (by omega)] at ha
      clear hc hb
      generalize t[k].toNat = x at *
      have HS := Lib.hid hst
      have HWA := Lib.hid (wrap_add8 k _ _ (by omega) hx ha)
      clear hst ha
      generalize wordN (t.take k) = a at *
      go_wp2
      rw [HWA.out]
      exact ⟨⟨k + 1, by omega, by go_num, by rw [HS.out]⟩, by simp [intOf]; omega⟩
    · have hfin : t.take k = t := List.take_of_length_le (by omega)
      obtain rfl : k = 8 := by omega
      rw [hfin]
      go_wp2
      go_ret
      exact ⟨rfl, HR.out, HG.out⟩
end Go.Proofs.YteeljcnmgfjcmaaGreatDoor

/-
  The document's answer for roots (tallymanref06): Bytes by its contract. Conditions: a root's numbers are those of 64 bits.
-/
namespace Go.Proofs.YteeljcnmgfjcmaaGreatDoor
open Go.RowKit Go.Maps
set_option maxRecDepth 100000

/-- Words one behind the other. -/
def wordsB (l : List Nat) : List UInt8 := l.flatMap (wordB 8)
theorem wordsB_snoc (l : List Nat) (k : Nat) (hk : k < l.length) : wordsB (l.take (k + 1)) = wordsB (l.take k) ++ wordB 8 (l.getD k 0) := by
  unfold wordsB
  rw [List.take_succ_eq_append_getElem hk, List.flatMap_append, List.getD_eq_getElem?_getD, List.getElem?_eq_getElem hk]
  simp
theorem wordsB_rt (r : Rt) : wordsB (rtL r) = rtB r := by simp [wordsB, rtL, rtB]
theorem wordsB_len (l : List Nat) : (wordsB l).length = 8 * l.length := by
  unfold wordsB
  induction l with
  | nil => rfl
  | cons a l ih => rw [List.flatMap_cons, List.length_append, ih, wordB_len]; simp; omega
theorem rtL_at (r : Rt) (k : Nat) (hk : k < 9) : (rtV r)[k]? = some (.int .u64 (((rtL r).getD k 0 : Nat) : Int)) := by
  have h : k = 0 ∨ k = 1 ∨ k = 2 ∨ k = 3 ∨ k = 4 ∨ k = 5 ∨ k = 6 ∨ k = 7 ∨ k = 8 := by omega
  rcases h with rfl | rfl | rfl | rfl | rfl | rfl | rfl | rfl | rfl <;> rfl
theorem rtL_lt (r : Rt) (h : r.Wf) (k : Nat) : (rtL r).getD k 0 < 18446744073709551616 := by
  by_cases hk : k < 9
  · have h' : k = 0 ∨ k = 1 ∨ k = 2 ∨ k = 3 ∨ k = 4 ∨ k = 5 ∨ k = 6 ∨ k = 7 ∨ k = 8 := by omega
    obtain ⟨h0, h1, h2, h3, h4, h5, h6, h7, h8⟩ := h
    rcases h' with rfl | rfl | rfl | rfl | rfl | rfl | rfl | rfl | rfl <;> assumption
  · rw [List.getD_eq_getElem?_getD, List.getElem?_eq_none (by simp [rtL]; omega)]
    decide
set_option maxRecDepth 100000 in
set_option maxHeartbeats 4000000 in
theorem r6bytes_bad (w : World) (r : Rt) (h : ¬ okR r) : Calls Tryz.prog 24 #[.agg (rtV r)] w (Refused w 2) := by
  obtain ⟨w0, hw0⟩ : ∃ w0, w.alloc (.cells (rtV r) 39) = w0 := ⟨_, rfl⟩
  have HX0 : Hid (RBox (w.alloc (.cells (rtV r) 39)) w.heap.size r) := RBox.new w r
  have HB0 : Hid (Below w.heap.size w w0) := hw0 ▸ below_new w _
  have HW0 := Lib.hid hw0
  have HC : Hid (checkN r = 2) := if_neg h
  clear hw0 h
  go_enter Tryz.func24, Tryz.ntmps24
  go_wp2_with (refine wpList_loadRt rfl _ rfl _ rfl _ HX0.out ?_)
  rw [HW0.out]
  refine (r6check_any _ r).mono ?_
  rintro e w1 ⟨rfl, hb1⟩
  rw [HC.out]
  go_wp2_with fail
  go_ret2
  exact ⟨rfl, HB0.out.trans (hb1.mono HB0.out.size)⟩
def R6Rel (w w2 : World) (r : Rt) (v i : Value) (wr : World) : Prop :=
  ∃ k : Nat, k ≤ 9 ∧ i = .int .i64 (k : Int) ∧ Own wr w.heap.size 5 v (wordsB ((rtL r).take k)) ∧ Below w2.heap.size w2 wr
set_option maxRecDepth 100000 in
set_option maxHeartbeats 4000000 in
theorem r6bytes_ok (w : World) (r : Rt) (hwf : r.Wf) (h : okR r) : Calls Tryz.prog 24 #[.agg (rtV r)] w (MadeE w (rootB r)) := by
  obtain ⟨w0, hw0⟩ : ∃ w0, w.alloc (.cells (rtV r) 39) = w0 := ⟨_, rfl⟩
  have HX0 : Hid (RBox (w.alloc (.cells (rtV r) 39)) w.heap.size r) := RBox.new w r
  have HB0 : Hid (Below w.heap.size w w0) := hw0 ▸ below_new w _
  have HW0 := Lib.hid hw0
  have HC : Hid (checkN r = 0) := if_pos h
  have HF := Lib.hid hwf
  clear hw0 h hwf
  go_enter Tryz.func24, Tryz.ntmps24
  go_wp2_with (refine wpList_loadRt rfl _ rfl _ rfl _ HX0.out ?_)
  rw [HW0.out] at HX0 ⊢
  refine (r6check_any _ r).mono ?_
  rintro e w1 ⟨rfl, hb1⟩
  rw [HC.out]
  have HX1 := Lib.hid (HX0.out.below hb1)
  have HB1 := Lib.hid (HB0.out.trans (hb1.mono HB0.out.size))
  obtain ⟨w2, hw2⟩ : ∃ w2, w1.alloc (.cells (rtV r) 36) = w2 := ⟨_, rfl⟩
  have HB2 : Hid (Below w.heap.size w w2) := hw2 ▸ HB1.out.alloc HB1.out.size _
  have HX2 : Hid (RBox w2 w.heap.size r) := hw2 ▸ HX1.out.below (below_new w1 _)
  have HG2 : Hid (w2.heap[w1.heap.size]? = some (.cells (rtV r) 36)) := by rw [Hid, ← hw2]; exact heap_alloc_new w1 _
  have HS2 : Hid (w1.heap.size < w2.heap.size) := by rw [Hid, ← hw2]; simp
  obtain ⟨c0, c1, c2, c3, c4, c5, c6, c7, c8⟩ := HX1.out.cells
  have HW2 := Lib.hid hw2
  unfold rtV at HW2
  clear hb1 hw2
  go_wp2_with fail
  rw [HW2.out]
  clear c0 c1 c2 c3 c4 c5 c6 c7 c8
  generalize w1.heap.size = g at *
  go_loopw [5, 7] (fun v i wr => R6Rel w w2 r v i wr) (fun _ i _ => 9 - (intOf i).toNat)
  case atStart => exact ⟨0, by omega, rfl, World.ownsRow_nil _ _ _ 1, Below.refl _ _⟩
  case round =>
    obtain ⟨k, hk, rfl, hown, hbel⟩ := hrel
    have HO := Lib.hid hown
    have HB := Lib.hid hbel
    by_cases hlt : k < 9
    · have hcell : wr.cell? ⟨g, k, none⟩ = some (.int .u64 (((rtL r).getD k 0 : Nat) : Int)) := by
        rw [hbel.cell (p := ⟨g, k, none⟩) HS2.out, cell_of_row _ _ _ _ _ _ HG2.out, rtL_at r k hlt]
      have HN := Lib.hid (rtL_lt r HF.out k)
      have HS := Lib.hid (wordsB_snoc (rtL r) k hlt)
      have HLL : Hid ((wordsB ((rtL r).take k)).length ≤ 1000) := by rw [Hid, wordsB_len, List.length_take]; omega
      obtain ⟨A, m, c, rfl, N, hnc, hcm⟩ := hown.byt.form
      clear hown hbel
      generalize (rtL r).getD k 0 = x at *
      go_wp2_with fail
      refine (refword_is _ _ _ x 8 HO.out.byt HN.out (by omega) (by have := HLL.out; omega)).mono ?_
      rintro e w3 ⟨v3, rfl, hown3, hb3⟩
      have HO3 := Lib.hid (hown3.lower (Nat.le_trans HB2.out.size HB.out.size))
      have HB3 := Lib.hid (HB.out.trans (hb3.mono HB.out.size))
      obtain ⟨A3, n3, c3, rfl, N3, hnc3, hcm3⟩ := hown3.byt.form
      clear hown3 hb3
      go_wp2_with fail
      go_roundw
      case rel => exact ⟨k + 1, by omega, by go_num, by rw [HS.out]; exact HO3.out, HB3.out⟩
      case measure => simp [intOf]; omega
    · obtain rfl : k = 9 := by omega
      have hown' := hown
      rw [show wordsB ((rtL r).take 9) = rtB r from wordsB_rt r] at hown'
      have HOB := Lib.hid hown'
      clear hown'
      obtain ⟨c0, c1, c2, c3, c4, c5, c6, c7, c8⟩ := (HX2.out.below hbel).cells
      obtain ⟨A, m, c, rfl, N, hnc, hcm⟩ := hown.byt.form
      have HBW := Lib.hid (HB2.out.trans (hbel.mono HB2.out.size))
      clear hown hbel
      go_wp2_with fail
      rw [show (r.e : Int) % 4294967296 = ((r.e % 4294967296 : Nat) : Int) from by omega]
      refine (r5bytes_ok _ 1 (r.e % 4294967296) _ (rtB r) HOB.out.byt (by omega) (by omega) (by rw [rtB_len]; omega) (by omega)).mono ?_
      rintro e w3 ⟨v3, rfl, hown3, hb3⟩
      have HB3 := Lib.hid (HBW.out.trans (hb3.mono HBW.out.size))
      have HO3 := Lib.hid (hown3.lower HBW.out.size)
      obtain ⟨A3, n3, c3, rfl, N3, hnc3, hcm3⟩ := hown3.byt.form
      clear hown3 hb3
      go_wp2_with fail
      go_ret2
      exact ⟨_, rfl, HO3.out, HB3.out⟩
end Go.Proofs.YteeljcnmgfjcmaaGreatDoor

/-
  The document's answer for roots (tallymanref06): Read by its contract. Conditions: none.
-/
namespace Go.Proofs.YteeljcnmgfjcmaaGreatDoor
open Go.RowKit Go.Maps
set_option maxRecDepth 100000

/-- A root with one of its numbers set. -/
def setR (r : Rt) (i x : Nat) : Rt := match i with
  | 0 => { r with e := x } | 1 => { r with p := x } | 2 => { r with t := x } | 3 => { r with s := x } | 4 => { r with l := x }
  | 5 => { r with a := x } | 6 => { r with b := x } | 7 => { r with c := x } | _ => { r with d := x }
theorem RBox.put {w : World} {p : Nat} {r : Rt} (h : RBox w p r) (i x : Nat) (hi : i < 9) : RBox (w.setCell ⟨p, i, none⟩ (.int .u64 (x : Int))) p (setR r i x) := by
  have hi' : i = 0 ∨ i = 1 ∨ i = 2 ∨ i = 3 ∨ i = 4 ∨ i = 5 ∨ i = 6 ∨ i = 7 ∨ i = 8 := by omega
  unfold RBox at h ⊢
  rcases hi' with rfl | rfl | rfl | rfl | rfl | rfl | rfl | rfl | rfl <;> simp [World.setCell, Array.getElem?_modify, h, rtV, setR]
/-- The operation that writes one number of a root. -/
theorem wpList_putRt {ops : Array Oper} {rest : List Oper} {o : Oper} {a : Act} {w : World} {Q : Exit → Act → World → Prop} (hgd : o.guard = none) (hd : o.dst = none) (x y : Operand) (ho : o.op = .store 36 x y) (g i n : Nat) (hi : i < 9) (hx : a.eval x = .pointer (some ⟨g, i, none⟩)) (hy : a.eval y = .int .u64 (n : Int)) {r : Rt} (h : RBox w g r)
    (hK : wpList Tryz.prog ops Q rest a (w.setCell ⟨g, i, none⟩ (.int .u64 (n : Int)))) : wpList Tryz.prog ops Q (o :: rest) a w :=
  wpList_plain hgd fun K hk => by
    have hk' := hk _ _ hK
    obtain ⟨dst, op, type, pos, after, guard⟩ := o
    simp only at ho hd
    subst ho hd
    have c : w.cell? ⟨g, i, none⟩ = some (.int .u64 (((rtL r).getD i 0 : Nat) : Int)) := by rw [cell_of_row _ _ _ _ _ _ h, rtL_at r i hi]
    have f := h.frozen i
    clear h hK hk
    unfold Oper.wp
    generalize a.eval = ρ at *
    go_simp
    exact hk'
/-- Where Read's words are read: k of them, the root so far in a block. -/
structure RdSt6 (w u : World) (v : Value) (b : List UInt8) (g q k : Nat) (l : List UInt8) (r : Rt) : Prop where
  box0 : RBox u w.heap.size zeroR
  box : RBox u q r
  rdr : RRdr u g (l.drop (8 * k))
  byt : Byt u v b
  bel : Below w.heap.size w u
  hq : w.heap.size < q
  hg : w.heap.size < g
  ne : q ≠ g
theorem RdSt6.next {w u u' : World} {v : Value} {b : List UInt8} {g q k n : Nat} {l : List UInt8} {r : Rt} {e : Ending} (h : RdSt6 w u v b g q k l r) (hn : RNext u g n ((l.drop (8 * k)).drop 8) e u') : RdSt6 w u' v b g q (k + 1) l r := by
  obtain ⟨_, hr, hg⟩ := hn
  rw [List.drop_drop, show 8 * k + 8 = 8 * (k + 1) by omega] at hr
  exact ⟨(hg.block _ h.box0.lt (by have := h.hg; simp; omega)).trans h.box0, (hg.block _ h.box.lt (by have := h.ne; simp; exact h.ne)).trans h.box, hr, rbyt_reader h.byt h.rdr hg, h.bel.grown hg h.bel.size (fun k e => by injection e with e; have := h.hg; omega), h.hq, h.hg, h.ne⟩
theorem RdSt6.call {w u : World} {v : Value} {b : List UInt8} {g q k : Nat} {l : List UInt8} {r : Rt} (h : RdSt6 w u v b g q k l r) (hl : 72 ≤ l.length) (hl2 : l.length ≤ 10000) (hk : k < 9) :
    Calls Tryz.prog 59 #[.pointer (some ⟨g, 0, none⟩), .int .i64 8] u fun e u' => e = .returned (.int .u64 (wAt l k : Int)) ∧ RdSt6 w u' v b g q (k + 1) l r := by
  have hx : wAt (l.drop (8 * k)) 0 = wAt l k := by
    unfold wAt
    rw [List.drop_drop, Nat.mul_zero, Nat.add_zero]
  refine (rrword8_is u g _ h.rdr (by rw [List.length_drop]; omega) (by rw [List.length_drop]; omega)).mono ?_
  intro e u' hn
  exact ⟨by rw [← hx]; exact hn.1, h.next hn⟩
theorem RdSt6.put {w u : World} {v : Value} {b : List UInt8} {g q k : Nat} {l : List UInt8} {r : Rt} (h : RdSt6 w u v b g q k l r) (i x : Nat) (hi : i < 9) : RdSt6 w (u.setCell ⟨q, i, none⟩ (.int .u64 (x : Int))) v b g q k l (setR r i x) := by
  refine ⟨?_, h.box.put i x hi, ?_, ?_, h.bel.setCell (p := ⟨q, i, none⟩) (Nat.le_of_lt h.hq) _, h.hq, h.hg, h.ne⟩
  · unfold RBox
    rw [heap_cell_other (by have := h.hq; omega)]
    exact h.box0
  · obtain ⟨A, c, h1, h2⟩ := h.rdr
    refine ⟨A, c, ?_, ?_⟩
    · rw [heap_cell_other (fun e => h.ne e.symm)]
      exact h1
    · refine h2.keep (by rw [setCell_size]; exact Nat.le_refl _) (fun j hj hu => ?_)
      have hne : j ≠ q := by
        rintro rfl
        obtain ⟨off, x, hc⟩ := hu
        rw [cell_of_row _ _ _ _ _ _ h.box] at hc
        by_cases ho : off < 9
        · rw [rtL_at r off ho] at hc
          simp at hc
        · rw [Array.getElem?_eq_none (by rw [rtV_size]; omega)] at hc
          simp at hc
      rw [heap_cell_other hne]
  · refine h.byt.keep (by rw [setCell_size]; exact Nat.le_refl _) (fun j hj hu => ?_)
    have hne : j ≠ q := by
      rintro rfl
      obtain ⟨off, x, hc⟩ := hu
      rw [cell_of_row _ _ _ _ _ _ h.box] at hc
      by_cases ho : off < 9
      · rw [rtL_at r off ho] at hc
        simp at hc
      · rw [Array.getElem?_eq_none (by rw [rtV_size]; omega)] at hc
        simp at hc
    rw [heap_cell_other hne]
end Go.Proofs.YteeljcnmgfjcmaaGreatDoor

/-
  The document's answer for roots (tallymanref06): Read by its contract. Conditions: none.
-/
namespace Go.Proofs.YteeljcnmgfjcmaaGreatDoor
open Go.RowKit Go.Maps
set_option maxRecDepth 100000

set_option maxRecDepth 100000 in
set_option maxHeartbeats 8000000 in
theorem r6read_not (w : World) (v : Value) (b : List UInt8) (hv : Byt w v b) (h : ¬ okB b) : Calls Tryz.prog 32 #[v] w (RtN w zeroR 4) := by
  have Z := rtZero
  obtain ⟨A, m, c, rfl, N, hnc, hcm⟩ := hv.form
  obtain ⟨w0, hw0⟩ : ∃ w0, w.alloc (.cells (rtV zeroR) 39) = w0 := ⟨_, rfl⟩
  have HX0 : Hid (RBox w0 w.heap.size zeroR) := hw0 ▸ RBox.new w zeroR
  have HB0 : Hid (Below w.heap.size w w0) := hw0 ▸ below_new w _
  have HV0 := Lib.hid (hv.below HB0.out)
  have HW0 := Lib.hid hw0
  clear hv hw0
  go_enter Tryz.func32, Tryz.ntmps32
  go_wp2_with fail
  rw [HW0.out]
  refine (r5read_bad _ _ b HV0.out h).mono ?_
  rintro e w1 ⟨rfl, hb1⟩
  have hb2 := hb1.trans ((below_new w1 (.cells (pageV 0 0 (.slice none 0 0)) 83)).mono hb1.size)
  have HX2 := Lib.hid (HX0.out.below hb2)
  have HB2 := Lib.hid (HB0.out.trans (hb2.mono HB0.out.size))
  clear hb1 hb2
  unfold pageV at *
  go_wp2_with (with_reducible (show wpList _ _ _ (⟨_, Op.store 39 _ _, _, _, _, _⟩ :: _) _ _); refine wpList_storeRt rfl _ _ rfl _ rfl zeroR rfl _ (HX2.out) ?_; intro w9 h2 h3 h4 h5)
  refine ret_rt2 _ rfl rfl rfl _ rfl h2 ?_
  exact ⟨rfl, h3 _ _ HB2.out (Nat.le_refl _)⟩
set_option maxRecDepth 100000 in
set_option maxHeartbeats 8000000 in
theorem r6read_kind (w : World) (v : Value) (b : List UInt8) (hv : Byt w v b) (h : okB b) (hk : (b.getD 3 0).toNat ≠ 1) : Calls Tryz.prog 32 #[v] w (RtN w zeroR 4) := by
  have Z := rtZero
  obtain ⟨A, m, c, rfl, N, hnc, hcm⟩ := hv.form
  obtain ⟨w0, hw0⟩ : ∃ w0, w.alloc (.cells (rtV zeroR) 39) = w0 := ⟨_, rfl⟩
  have HX0 : Hid (RBox w0 w.heap.size zeroR) := hw0 ▸ RBox.new w zeroR
  have HB0 : Hid (Below w.heap.size w w0) := hw0 ▸ below_new w _
  have HV0 := Lib.hid (hv.below HB0.out)
  have HW0 := Lib.hid hw0
  have HL : Hid (b.length = 4096) := h.1.1
  clear hv hw0
  go_enter Tryz.func32, Tryz.ntmps32
  go_wp2_with fail
  rw [HW0.out]
  refine (r5read_ok _ _ b HV0.out h).mono ?_
  rintro e w1 ⟨v1, rfl, hown1, hb1⟩
  obtain ⟨A1, n1, c1, rfl, N1, hnc1, hcm1⟩ := hown1.byt.form
  generalize ((numW b : Nat) : Int) = nm at *
  obtain ⟨kd, hkd⟩ : ∃ kd : Int, ((b.getD 3 0).toNat : Int) = kd := ⟨_, rfl⟩
  rw [hkd]
  have hk1 : (kd == 1) = false := by rw [beq_eq_false_iff_ne]; omega
  clear hkd hk
  obtain ⟨w2, hw2⟩ : ∃ w2, w1.alloc (.cells (pageV kd nm (.slice A1 n1 c1)) 83) = w2 := ⟨_, rfl⟩
  have hb12 : Below w1.heap.size w1 w2 := hw2 ▸ below_new w1 _
  have hb2 : Below w0.heap.size w0 w2 := hb1.trans (hb12.mono hb1.size)
  have HX2 := Lib.hid (HX0.out.below hb2)
  have HB2 := Lib.hid (HB0.out.trans (hb2.mono HB0.out.size))
  have HV2 := Lib.hid (HV0.out.below hb2)
  have HO2 := Lib.hid (hown1.byt.below hb12)
  obtain ⟨d0, d1, d2⟩ := (hw2 ▸ Box.new w1 kd nm (.slice A1 n1 c1) : Box w2 _ _ _ _).cells
  rw [← hw2] at d0 d1 d2
  have HW2 := Lib.hid hw2
  have HX2' : Hid (RBox (w1.alloc (.cells (pageV kd nm (.slice A1 n1 c1)) 83)) w.heap.size zeroR) := by rw [Hid, hw2]; exact HX2.out
  have HB2' : Hid (Below w.heap.size w (w1.alloc (.cells (pageV kd nm (.slice A1 n1 c1)) 83))) := by rw [Hid, hw2]; exact HB2.out
  clear hown1 hb1 hb12 hb2 hw2
  unfold pageV at *
  go_wp2_with (with_reducible (show wpList _ _ _ (⟨_, Op.store 39 _ _, _, _, _, _⟩ :: _) _ _); refine wpList_storeRt rfl _ _ rfl _ rfl zeroR rfl _ (HX2'.out) ?_; intro w9 h2 h3 h4 h5)
  refine ret_rt2 _ rfl rfl rfl _ rfl h2 ?_
  exact ⟨rfl, h3 _ _ HB2'.out (Nat.le_refl _)⟩
set_option maxRecDepth 100000 in
set_option maxHeartbeats 8000000 in
theorem r6read_page (w : World) (v : Value) (b : List UInt8) (hv : Byt w v b) (h : okB b) (hk : (b.getD 3 0).toNat = 1) (r : Rt) (hr : toldR (b.drop 16) = r) (hwf : r.Wf) (q : Rt) (n : Nat)
    (hq : okR r ∧ rootB r = b ∧ q = r ∧ n = 0 ∨ okR r ∧ rootB r ≠ b ∧ q = zeroR ∧ n = 4 ∨ ¬ okR r ∧ q = zeroR ∧ n = 4) : Calls Tryz.prog 32 #[v] w (RtN w q n) := by
  have Z := rtZero
  obtain ⟨A, m, c, rfl, N, hnc, hcm⟩ := hv.form
  obtain ⟨w0, hw0⟩ : ∃ w0, w.alloc (.cells (rtV zeroR) 39) = w0 := ⟨_, rfl⟩
  have HX0 : Hid (RBox w0 w.heap.size zeroR) := hw0 ▸ RBox.new w zeroR
  have HB0 : Hid (Below w.heap.size w w0) := hw0 ▸ below_new w _
  have HV0 := Lib.hid (hv.below HB0.out)
  have HW0 := Lib.hid hw0
  have HL : Hid (b.length = 4096) := h.1.1
  have HR := Lib.hid hr
  have HF := Lib.hid hwf
  have HQ := Lib.hid hq
  clear hr hwf hq
  clear hv hw0
  go_enter Tryz.func32, Tryz.ntmps32
  go_wp2_with fail
  rw [HW0.out]
  refine (r5read_ok _ _ b HV0.out h).mono ?_
  rintro e w1 ⟨v1, rfl, hown1, hb1⟩
  obtain ⟨A1, n1, c1, rfl, N1, hnc1, hcm1⟩ := hown1.byt.form
  generalize ((numW b : Nat) : Int) = nm at *
  rw [hk]
  obtain ⟨kd, hkd⟩ : ∃ kd : Int, ((1 : Nat) : Int) = kd := ⟨_, rfl⟩
  have hk1 : kd = 1 := hkd.symm
  clear hkd hk
  subst hk1
  obtain ⟨w2, hw2⟩ : ∃ w2, w1.alloc (.cells (pageV 1 nm (.slice A1 n1 c1)) 83) = w2 := ⟨_, rfl⟩
  have hb12 : Below w1.heap.size w1 w2 := hw2 ▸ below_new w1 _
  have hb2 : Below w0.heap.size w0 w2 := hb1.trans (hb12.mono hb1.size)
  have HX2 := Lib.hid (HX0.out.below hb2)
  have HB2 := Lib.hid (HB0.out.trans (hb2.mono HB0.out.size))
  have HV2 := Lib.hid (HV0.out.below hb2)
  have HO2 := Lib.hid (hown1.byt.below hb12)
  obtain ⟨d0, d1, d2⟩ := (hw2 ▸ Box.new w1 1 nm (.slice A1 n1 c1) : Box w2 _ _ _ _).cells
  rw [← hw2] at d0 d1 d2
  have HW2 := Lib.hid hw2
  have HX2' : Hid (RBox (w1.alloc (.cells (pageV 1 nm (.slice A1 n1 c1)) 83)) w.heap.size zeroR) := by rw [Hid, hw2]; exact HX2.out
  have HB2' : Hid (Below w.heap.size w (w1.alloc (.cells (pageV 1 nm (.slice A1 n1 c1)) 83))) := by rw [Hid, hw2]; exact HB2.out
  clear hown1 hb1 hb12 hb2 hw2
  unfold pageV at *
  go_wp2_with fail
  clear d0 d1 d2
  rw [HW2.out]
  have HD : Hid ((b.drop 16).length = 4080) := by rw [Hid, List.length_drop, HL.out]
  generalize b.drop 16 = l at *
  refine (r1new_any _ _ l HO2.out (by have := HD.out; omega)).mono ?_
  rintro e w3 ⟨g, rfl, hg, hr3, hb3⟩
  obtain ⟨w4, hw4⟩ : ∃ w4, w3.alloc (.cells (rtV zeroR) 39) = w4 := ⟨_, rfl⟩
  have hb4 : Below w3.heap.size w3 w4 := hw4 ▸ below_new w3 _
  have hlt : w.heap.size < w2.heap.size := HX2.out.lt
  have S0 : Hid (RdSt6 w w4 (.slice A m c) b g w3.heap.size 0 l zeroR) := ⟨(HX2.out.below hb3).below hb4, hw4 ▸ RBox.new w3 zeroR, by simpa using hr3.below hb4, (HV2.out.below hb3).below hb4,
    HB2.out.trans ((hb3.trans (hb4.mono hb3.size)).mono HB2.out.size), by have := hb3.size; omega, by omega, by have := hr3.lt; omega⟩
  have HW4 := Lib.hid hw4
  clear hw4 hb4 hb3 hr3 hg hlt HX2 HB2 HV2 HO2 HX2' HB2' HX0 HB0 HV0 HW2
  go_wp2_with fail
  rw [HW4.out]
  clear HW4
  generalize w3.heap.size = qb at *
  refine (S0.out.call (by have := HD.out; omega) (by have := HD.out; omega) (by omega)).mono ?_
  rintro e u1 ⟨rfl, hs⟩
  have S1 := Lib.hid hs
  clear hs S0
  go_wp2_with fail
  refine (S1.out.call (by have := HD.out; omega) (by have := HD.out; omega) (by omega)).mono ?_
  rintro e u2 ⟨rfl, hs⟩
  have S2 := Lib.hid hs
  clear hs S1
  go_wp2_with fail
  refine (S2.out.call (by have := HD.out; omega) (by have := HD.out; omega) (by omega)).mono ?_
  rintro e u3 ⟨rfl, hs⟩
  have S3 := Lib.hid hs
  clear hs S2
  go_wp2_with fail
  refine (S3.out.call (by have := HD.out; omega) (by have := HD.out; omega) (by omega)).mono ?_
  rintro e u4 ⟨rfl, hs⟩
  have S4 := Lib.hid hs
  clear hs S3
  go_wp2_with fail
  refine (S4.out.call (by have := HD.out; omega) (by have := HD.out; omega) (by omega)).mono ?_
  rintro e u5 ⟨rfl, hs⟩
  have S5 := Lib.hid hs
  clear hs S4
  generalize hx0 : wAt l 0 = x0 at *
  generalize hx1 : wAt l 1 = x1 at *
  generalize hx2 : wAt l 2 = x2 at *
  generalize hx3 : wAt l 3 = x3 at *
  generalize hx4 : wAt l 4 = x4 at *
  generalize hx5 : wAt l 5 = x5 at *
  generalize hx6 : wAt l 6 = x6 at *
  generalize hx7 : wAt l 7 = x7 at *
  generalize hx8 : wAt l 8 = x8 at *
  have HT : Hid ((⟨x0, x1, x2, x3, x4, x5, x6, x7, x8⟩ : Rt) = r) := by
    rw [Hid, ← HR.out]
    unfold toldR
    rw [hx0, hx1, hx2, hx3, hx4, hx5, hx6, hx7, hx8]
  have HX10 := Lib.hid hx0
  have HX11 := Lib.hid hx1
  have HX12 := Lib.hid hx2
  have HX13 := Lib.hid hx3
  have HX14 := Lib.hid hx4
  have HX15 := Lib.hid hx5
  have HX16 := Lib.hid hx6
  have HX17 := Lib.hid hx7
  have HX18 := Lib.hid hx8
  clear hx0 hx1 hx2 hx3 hx4 hx5 hx6 hx7 hx8
  go_wp2_with (first | (with_reducible (show wpList _ _ _ (⟨_, Op.store 36 (Operand.tmp 36) _, _, _, _, _⟩ :: _) _ _); refine wpList_putRt rfl rfl _ _ rfl qb 0 x0 (by omega) rfl rfl (S5.out.box) ?_) | (with_reducible (show wpList _ _ _ (⟨_, Op.store 36 (Operand.tmp 37) _, _, _, _, _⟩ :: _) _ _); refine wpList_putRt rfl rfl _ _ rfl qb 1 x1 (by omega) rfl rfl ((S5.out.put 0 x0 (by omega)).box) ?_) | (with_reducible (show wpList _ _ _ (⟨_, Op.store 36 (Operand.tmp 38) _, _, _, _, _⟩ :: _) _ _); refine wpList_putRt rfl rfl _ _ rfl qb 2 x2 (by omega) rfl rfl (((S5.out.put 0 x0 (by omega)).put 1 x1 (by omega)).box) ?_) | (with_reducible (show wpList _ _ _ (⟨_, Op.store 36 (Operand.tmp 39) _, _, _, _, _⟩ :: _) _ _); refine wpList_putRt rfl rfl _ _ rfl qb 3 x3 (by omega) rfl rfl ((((S5.out.put 0 x0 (by omega)).put 1 x1 (by omega)).put 2 x2 (by omega)).box) ?_) | (with_reducible (show wpList _ _ _ (⟨_, Op.store 36 (Operand.tmp 40) _, _, _, _, _⟩ :: _) _ _); refine wpList_putRt rfl rfl _ _ rfl qb 4 x4 (by omega) rfl rfl (((((S5.out.put 0 x0 (by omega)).put 1 x1 (by omega)).put 2 x2 (by omega)).put 3 x3 (by omega)).box) ?_))
  have T5 := Lib.hid (((((S5.out.put 0 x0 (by omega)).put 1 x1 (by omega)).put 2 x2 (by omega)).put 3 x3 (by omega)).put 4 x4 (by omega))
  generalize ((((u5.setCell ⟨qb, 0, none⟩ (.int .u64 (x0 : Int))).setCell ⟨qb, 1, none⟩ (.int .u64 (x1 : Int))).setCell ⟨qb, 2, none⟩ (.int .u64 (x2 : Int))).setCell ⟨qb, 3, none⟩ (.int .u64 (x3 : Int))).setCell ⟨qb, 4, none⟩ (.int .u64 (x4 : Int)) = y5 at *
  clear S5
  refine wp_loop_rounds 5 ?_
  rw [rounds_succ]
  go_wp2_with fail
  have CC := T5.out.call (by have := HD.out; omega) (by have := HD.out; omega) (by omega)
  rw [HX15.out] at CC
  refine CC.mono ?_
  clear CC
  rintro e u6 ⟨rfl, hs⟩
  have T6 := Lib.hid (hs.put 5 x5 (by omega))
  go_wp2_with (with_reducible (show wpList _ _ _ (⟨_, Op.store 36 (Operand.tmp 49) _, _, _, _, _⟩ :: _) _ _); refine wpList_putRt rfl rfl _ _ rfl qb 5 x5 (by omega) rfl rfl (hs.box) ?_)
  generalize u6.setCell ⟨qb, 5, none⟩ (.int .u64 (x5 : Int)) = y6 at *
  clear hs T5
  rw [rounds_succ]
  go_wp2_with fail
  have CC := T6.out.call (by have := HD.out; omega) (by have := HD.out; omega) (by omega)
  rw [HX16.out] at CC
  refine CC.mono ?_
  clear CC
  rintro e u7 ⟨rfl, hs⟩
  have T7 := Lib.hid (hs.put 6 x6 (by omega))
  go_wp2_with (with_reducible (show wpList _ _ _ (⟨_, Op.store 36 (Operand.tmp 49) _, _, _, _, _⟩ :: _) _ _); refine wpList_putRt rfl rfl _ _ rfl qb 6 x6 (by omega) rfl rfl (hs.box) ?_)
  generalize u7.setCell ⟨qb, 6, none⟩ (.int .u64 (x6 : Int)) = y7 at *
  clear hs T6
  rw [rounds_succ]
  go_wp2_with fail
  have CC := T7.out.call (by have := HD.out; omega) (by have := HD.out; omega) (by omega)
  rw [HX17.out] at CC
  refine CC.mono ?_
  clear CC
  rintro e u8 ⟨rfl, hs⟩
  have T8 := Lib.hid (hs.put 7 x7 (by omega))
  go_wp2_with (with_reducible (show wpList _ _ _ (⟨_, Op.store 36 (Operand.tmp 49) _, _, _, _, _⟩ :: _) _ _); refine wpList_putRt rfl rfl _ _ rfl qb 7 x7 (by omega) rfl rfl (hs.box) ?_)
  generalize u8.setCell ⟨qb, 7, none⟩ (.int .u64 (x7 : Int)) = y8 at *
  clear hs T7
  rw [rounds_succ]
  go_wp2_with fail
  have CC := T8.out.call (by have := HD.out; omega) (by have := HD.out; omega) (by omega)
  rw [HX18.out] at CC
  refine CC.mono ?_
  clear CC
  rintro e u9 ⟨rfl, hs⟩
  have T9 := Lib.hid (hs.put 8 x8 (by omega))
  go_wp2_with (with_reducible (show wpList _ _ _ (⟨_, Op.store 36 (Operand.tmp 49) _, _, _, _, _⟩ :: _) _ _); refine wpList_putRt rfl rfl _ _ rfl qb 8 x8 (by omega) rfl rfl (hs.box) ?_)
  generalize u9.setCell ⟨qb, 8, none⟩ (.int .u64 (x8 : Int)) = y9 at *
  clear hs T8
  rw [rounds_succ]
  have TX : Hid (RBox y9 qb r) := by rw [Hid, ← HT.out]; exact T9.out.box
  go_wp2_with ((with_reducible (show wpList _ _ _ (⟨_, Op.load 39 _, _, _, _, _⟩ :: _) _ _); refine wpList_loadRt rfl _ rfl _ rfl _ (TX.out) ?_))
  rcases HQ.out with ⟨hok, hb, rfl, rfl⟩ | ⟨hok, hb, rfl, rfl⟩ | ⟨hok, rfl, rfl⟩
  · refine (r6bytes_ok _ q HF.out hok).mono ?_
    rintro e z1 ⟨v5, rfl, hown5, hb5⟩
    have HX5 := Lib.hid (T9.out.box0.below hb5)
    have HB5 := Lib.hid (T9.out.bel.trans (hb5.mono T9.out.bel.size))
    have HY5 := Lib.hid (TX.out.below hb5)
    have HV5 := Lib.hid (T9.out.byt.below hb5)
    have T1 := text_of hown5.byt
    have T2 := text_of HV5.out
    obtain ⟨A5, n5, c5, rfl, N5, hnc5, hcm5⟩ := hown5.byt.form
    rw [hb] at T1
    generalize (⟨b.toArray⟩ : ByteArray) = sb at *
    clear hown5 hb5 hb
    go_wp2_with (first | (with_reducible (show wpList _ _ _ (⟨_, Op.load 39 _, _, _, _, _⟩ :: _) _ _); refine wpList_loadRt rfl _ rfl _ rfl _ (HY5.out) ?_) | (with_reducible (show wpList _ _ _ (⟨_, Op.store 39 _ _, _, _, _, _⟩ :: _) _ _); refine wpList_storeRt rfl _ _ rfl _ rfl q rfl _ (HX5.out) ?_; intro w9 h2 h3 h4 h5))
    refine ret_rt2 _ rfl rfl rfl _ rfl h2 ?_
    exact ⟨rfl, h3 _ _ HB5.out (Nat.le_refl _)⟩
  · refine (r6bytes_ok _ r HF.out hok).mono ?_
    rintro e z1 ⟨v5, rfl, hown5, hb5⟩
    have HX5 := Lib.hid (T9.out.box0.below hb5)
    have HB5 := Lib.hid (T9.out.bel.trans (hb5.mono T9.out.bel.size))
    have HY5 := Lib.hid (TX.out.below hb5)
    have HV5 := Lib.hid (T9.out.byt.below hb5)
    have T1 := text_of hown5.byt
    have T2 := text_of HV5.out
    obtain ⟨A5, n5, c5, rfl, N5, hnc5, hcm5⟩ := hown5.byt.form
    have E := bytes_eq (rootB r) b
    rw [decide_eq_false hb] at E
    generalize (⟨b.toArray⟩ : ByteArray) = sb at *
    generalize (⟨(rootB r).toArray⟩ : ByteArray) = sa at *
    clear hown5 hb5 hb
    go_wp2_with (with_reducible (show wpList _ _ _ (⟨_, Op.store 39 _ _, _, _, _, _⟩ :: _) _ _); refine wpList_storeRt rfl _ _ rfl _ rfl zeroR rfl _ (HX5.out) ?_; intro w9 h2 h3 h4 h5)
    refine ret_rt2 _ rfl rfl rfl _ rfl h2 ?_
    exact ⟨rfl, h3 _ _ HB5.out (Nat.le_refl _)⟩
  · refine (r6bytes_bad _ r hok).mono ?_
    rintro e z1 ⟨rfl, hb5⟩
    have HX5 := Lib.hid (T9.out.box0.below hb5)
    have HB5 := Lib.hid (T9.out.bel.trans (hb5.mono T9.out.bel.size))
    clear hb5
    go_wp2_with (with_reducible (show wpList _ _ _ (⟨_, Op.store 39 _ _, _, _, _, _⟩ :: _) _ _); refine wpList_storeRt rfl _ _ rfl _ rfl zeroR rfl _ (HX5.out) ?_; intro w9 h2 h3 h4 h5)
    refine ret_rt2 _ rfl rfl rfl _ rfl h2 ?_
    exact ⟨rfl, h3 _ _ HB5.out (Nat.le_refl _)⟩
theorem r6read_any (w : World) (v : Value) (b : List UInt8) (hv : Byt w v b) : Calls Tryz.prog 32 #[v] w (RtN w (readQ b).1 (readQ b).2) := by
  by_cases h : okB b
  · by_cases h1 : (b.getD 3 0).toNat = 1
    · refine r6read_page w v b hv h h1 _ rfl (toldR_wf _) _ _ ?_
      by_cases hk : okR (toldR (b.drop 16))
      · by_cases he : rootB (toldR (b.drop 16)) = b
        · have := readQ_some (b := b) (r := toldR (b.drop 16)) (by unfold readRt; rw [if_pos ⟨h, hk, he⟩])
          rw [this]
          exact .inl ⟨hk, he, rfl, rfl⟩
        · have := readQ_none (b := b) (by unfold readRt; rw [if_neg (fun k => he k.2.2)])
          rw [this]
          exact .inr (.inl ⟨hk, he, rfl, rfl⟩)
      · have := readQ_none (b := b) (by unfold readRt; rw [if_neg (fun k => hk k.2.1)])
        rw [this]
        exact .inr (.inr ⟨hk, rfl, rfl⟩)
    · rw [readQ_none (b := b) (by unfold readRt; rw [if_neg (fun k => h1 (by rw [← k.2.2]; exact pageB_kind 1 _ _ (by omega)))])]
      exact r6read_kind w v b hv h h1
  · rw [readQ_none (readRt_none h)]
    exact r6read_not w v b hv h
end Go.Proofs.YteeljcnmgfjcmaaGreatDoor

