/-
  The statement SectorScript: whatever is called, a disk does what the document says. Conditions: none.
-/
import Derived.Test.YtmdppdpoogbeaaaSecY
import Derived.Test.YtmdppdpoogbeaaaOrd
namespace Go.Proofs.Ytmdppdpoogbeaaa.sectorScript
open Go.ChangeShapes Go.WideShapes Go.ChangeAt Go.RowKit Go.Maps
set_option linter.unusedVariables false

/-- The program's disk and the document's, side by side. -/
structure PairD (w0 w : World) (S T : Nat → Prop) (d r : Nat) (s1 s2 : St) : Prop where
  d : Dsk w S d s1
  r : Ref w T r s2
  apart : ∀ k, S k → ¬ T k
  ls : ∀ k, S k → w0.heap.size ≤ k
  lt : ∀ k, T k → w0.heap.size ≤ k
  bel : Below w0.heap.size w0 w
section
variable {w0 w w' : World} {S T : Nat → Prop} {d r : Nat} {s1 s2 : St}
theorem PairD.below (h : PairD w0 w S T d r s1 s2) (hb : Below w.heap.size w w') : PairD w0 w' S T d r s1 s2 :=
  ⟨h.d.below hb, h.r.below hb, h.apart, h.ls, h.lt, h.bel.trans (hb.mono h.bel.size)⟩
theorem PairD.drew (h : PairD w0 w S T d r s1 s2) : PairD w0 w.drew S T d r s1 s2 :=
  ⟨h.d.same (Nat.le_refl _) (fun _ _ => rfl), h.r.same (Nat.le_refl _) (fun _ _ => rfl), h.apart, h.ls, h.lt, h.bel.drew⟩
theorem PairD.done {q : Nat × St} {e : Ending} (h : PairD w0 w S T d r s1 s2) (hd : Done w S d q e w') :
    e = .returned (.int .i64 ((q.1 : Nat) : Int)) ∧ ∃ S', PairD w0 w' S' T d r q.2 s2 ∧ Trn S w w' := by
  refine ⟨hd.1, more S w w', ⟨hd.2.1, h.r.trn hd.2.2 (fun k hk hs => h.apart k hs hk), fun k hk ht => ?_, fun k hk => hk.elim (h.ls k) (fun hk => Nat.le_trans h.bel.size hk.1), h.lt, h.bel.trans (hd.2.2.below h.bel.size h.ls)⟩, hd.2.2⟩
  rcases hk with hk | hk
  · exact h.apart k hk ht
  · have := h.r.lt k ht; omega
theorem PairD.rdone {q : Nat × St} {e : Ending} (h : PairD w0 w S T d r s1 s2) (hd : RDone w T r q e w') :
    e = .returned (.int .i64 ((q.1 : Nat) : Int)) ∧ ∃ T', PairD w0 w' S T' d r s1 q.2 ∧ Trn T w w' := by
  refine ⟨hd.1, more T w w', ⟨h.d.trn hd.2.2 (fun k hk ht => h.apart k hk ht), hd.2.1, fun k hk ht => ?_, h.ls, fun k hk => hk.elim (h.lt k) (fun hk => Nat.le_trans h.bel.size hk.1), h.bel.trans (hd.2.2.below h.bel.size h.lt)⟩, hd.2.2⟩
  rcases ht with ht | ht
  · exact h.apart k hk ht
  · have := h.d.lt k hk; omega
theorem PairD.red {q : List UInt8 × Nat × St} {e : Ending} (h : PairD w0 w S T d r s1 s2) (hd : Red w S d q e w') :
    ∃ v, e = .returned (.tuple #[v, .int .i64 ((q.2.1 : Nat) : Int)]) ∧ Byt w' v q.1 ∧ (∀ k, v.ownBlock = some k → ¬ S k ∧ ¬ T k) ∧ PairD w0 w' S T d r q.2.2 s2 ∧ Trn S w w' := by
  obtain ⟨v, h1, h2, h3, h4⟩ := hd
  refine ⟨v, h1, h2.byt, fun k hk => ⟨fun hs => ?_, fun ht => ?_⟩, ⟨h3, h.r.trn h4 (fun k hk hs => h.apart k hs hk), h.apart, h.ls, h.lt, h.bel.trans (h4.below h.bel.size h.ls)⟩, h4⟩
  · have := (World.ownsRow.lt h2 k hk).1; have := h.d.lt k hs; omega
  · have := (World.ownsRow.lt h2 k hk).1; have := h.r.lt k ht; omega
theorem PairD.rred {q : List UInt8 × Nat × St} {e : Ending} (h : PairD w0 w S T d r s1 s2) (hd : RRed w T r q e w') :
    ∃ v, e = .returned (.tuple #[v, .int .i64 ((q.2.1 : Nat) : Int)]) ∧ Byt w' v q.1 ∧ PairD w0 w' S T d r s1 q.2.2 ∧ Trn T w w' := by
  obtain ⟨v, h1, h2, h3, h4⟩ := hd
  exact ⟨v, h1, h2.byt, ⟨h.d.trn h4 (fun k hk ht => h.apart k hk ht), h3, h.apart, h.ls, h.lt, h.bel.trans (h4.below h.bel.size h.lt)⟩, h4⟩
end
def ScrRel (w0 : World) (len d r : Nat) (i : Value) (wr : World) : Prop :=
  ∃ (k : Nat) (s : St) (S T : Nat → Prop), k ≤ len ∧ i = .int .i64 (k : Int) ∧ PairD w0 wr S T d r s s

set_option maxRecDepth 100000 in
set_option maxHeartbeats 4000000 in
theorem walk_great (w : World) (x : Int) (v : Value) (len : Nat) (f : Nat → ActD) (hv : Acts w v len f) (h : 40 < x ∨ ¬ smallA len f ∨ x < 1) :
    Calls Try.prog 3 #[.int .i64 x, v] w fun e w' => e = .returned (.bool true) ∧ Below w.heap.size w w' := by
  obtain ⟨A, c, rfl, hnc, hcm⟩ := hv.form
  have HV := Lib.hid hv
  clear hv
  by_cases hx : 40 < x
  · clear h
    go_enter Try.func3, Try.ntmps3
    go_wp2_with fail
    refine (lives4_any _).mono ?_
    rintro e w1 ⟨rfl, hb1⟩
    go_wp2_with fail
    go_ret
    exact ⟨rfl, hb1⟩
  · go_enter Try.func3, Try.ntmps3
    go_wp2_with fail
    refine (lives4_any _).mono ?_
    rintro e w1 ⟨rfl, hb1⟩
    have HB1 := Lib.hid hb1
    clear hb1
    go_wp2_with fail
    refine (small_any _ _ len f (HV.out.below HB1.out)).mono ?_
    rintro e w2 ⟨b, rfl, hb, hb2⟩
    have HB2 := Lib.hid (HB1.out.trans (hb2.mono HB1.out.size))
    clear hb2
    cases b
    · clear h hb
      go_wp2_with fail
      go_ret
      exact ⟨rfl, HB2.out⟩
    · have h1 : x < 1 := (h.resolve_left (by omega)).resolve_left (fun h => h (hb.1 rfl))
      clear h hb
      go_wp2_with fail
      refine (snew_bad _ x (.inl h1)).mono ?_
      rintro e w3 ⟨rfl, rfl⟩
      go_wp2_with fail
      refine (rnew_bad _ x (.inl h1)).mono ?_
      rintro e w3 ⟨rfl, rfl⟩
      go_wp2_with fail
      go_ret
      exact ⟨rfl, HB2.out⟩

set_option maxRecDepth 100000 in
set_option maxHeartbeats 40000000 in
theorem walk_few (RW0 : ∀ (w : World) (S : Nat → Prop) (g : Nat) (s : St) (x : Int) (v : Value) (l : List UInt8), Ref w S g s → Byt w v l → (∀ k, v.ownBlock = some k → ¬ S k) → Calls Try.prog 20 #[.pointer (some ⟨g, 0, none⟩), .int .i64 x, v] w (RDone w S g (writeR s x l)))
    (w : World) (n : Nat) (v : Value) (len : Nat) (f : Nat → ActD) (hv : Acts w v len f) (hs : smallA len f) (hn1 : 1 ≤ n) (hn40 : n ≤ 40) :
    Calls Try.prog 3 #[.int .i64 (n : Int), v] w fun e w' => e = .returned (.bool true) ∧ Below w.heap.size w w' := by
  obtain ⟨A, c, rfl, hnc, hcm⟩ := hv.form
  have HV := Lib.hid hv
  have RW := Lib.hid RW0
  have HSM := Lib.hid hs
  have h80 := hs.1
  have hx : ¬ (40 : Int) < (n : Int) := by omega
  clear hv hs RW0
  go_enter Try.func3, Try.ntmps3
  go_wp2_with fail
  refine (lives4_any _).mono ?_
  rintro e w1 ⟨rfl, hb1⟩
  have HB1 := Lib.hid hb1
  clear hb1
  go_wp2_with fail
  refine (small_any _ _ len f (HV.out.below HB1.out)).mono ?_
  rintro e w2 ⟨b, rfl, hb, hb2⟩
  obtain rfl : b = true := hb.2 HSM.out
  have HB2 := Lib.hid (HB1.out.trans (hb2.mono HB1.out.size))
  clear hb hb2
  go_wp2_with fail
  refine (snew_any _ n (by omega) (by omega)).mono ?_
  rintro e w3 ⟨d, rfl, hd3, hb3⟩
  have HB3 := Lib.hid (HB2.out.trans (hb3.mono HB2.out.size))
  have HD3 := Lib.hid hd3
  clear hd3 hb3
  go_wp2_with fail
  refine (rnew_any _ n (by omega) (by omega)).mono ?_
  rintro e w4 ⟨r, rfl, hr4, hb4⟩
  have HP4 : Hid (PairD w w4 (fun k => w2.heap.size ≤ k ∧ k < w3.heap.size) (fun k => w3.heap.size ≤ k ∧ k < w4.heap.size) d r (newS n) (newS n)) :=
    ⟨HD3.out.below hb4, hr4, fun k h1 h2 => by omega, fun k hk => Nat.le_trans HB2.out.size hk.1, fun k hk => Nat.le_trans HB3.out.size hk.1, HB3.out.trans (hb4.mono HB3.out.size)⟩
  clear hr4 hb4
  go_wp2_with fail
  go_loopw [9] (fun i wr => ScrRel w len d r i wr) (fun i _ => len - (intOf i).toNat)
  case atStart => exact ⟨0, newS n, _, _, by omega, rfl, HP4.out⟩
  case round =>
    clear HP4 HD3 HB3 HB2 HB1
    obtain ⟨k, s, S, T, hk, rfl, hpr⟩ := hrel
    have HP := Lib.hid hpr
    have HBW := Lib.hid hpr.bel
    clear hpr
    by_cases hlt : k < len
    · have hkn : (k : Int) < (len : Int) := by omega
      have hkl : (f k).keep.length ≤ 100 := HSM.out.2 k hlt
      obtain ⟨b, off, rfl, hb, hc, ha⟩ := HV.out.at hlt
      generalize f k = a at *
      have HC : Hid (∀ i y, (actL a)[i]? = some y → wr.cell? ⟨b, off + k * 8 + i, none⟩ = some y) := fun i y hy => (HBW.out.cell (p := ⟨b, off + k * 8 + i, none⟩) hb).trans (hc i y hy)
      have HOK := Lib.hid ha
      have HONE := Lib.hid (act_one ha)
      have HKL := Lib.hid hkl
      obtain ⟨q6, hr, hr6⟩ : ∃ q : Nat, a.kind % 6 = (q : Int) ∧ q < 6 := ⟨(a.kind % 6).toNat, by omega, by omega⟩
      have PK := Lib.hid (fun w => pick_any a.kind 6 w (by omega) (by omega))
      rw [hr] at PK
      clear hc hb ha hr hkl
      go_wp2_with (first
        | (refine wpList_loadAt Try.underlying36 (cs := actL a) actSize rfl _ rfl b (off + k * 8) rfl HC.out ?_)
        | (refine wpList_storeAct _ rfl a HONE.out rfl _ _ rfl rfl rfl ?_; intro w2 hab2 hb2; have HAB := Lib.hid hab2; have HP2 := Lib.hid (HP.out.below hb2); obtain ⟨d0, _⟩ := hab2.cells; clear hab2 hb2))
      have HNS : Hid (¬ S wr.heap.size) := fun hs => by have := HP.out.d.lt _ hs; omega
      have HNT : Hid (¬ T wr.heap.size) := fun hs => by have := HP.out.r.lt _ hs; omega
      refine (PK.out _).mono ?_
      rintro e w5 ⟨rfl, rfl⟩
      clear d0
      by_cases h0 : q6 = 0
      · subst h0
        obtain ⟨_, d1, _⟩ := HAB.out.cells
        go_wp2_with fail
        refine (read_is w2 S d s a.pl HP2.out.d).mono ?_
        intro e w6 hred
        obtain ⟨v6, rfl, hv6, hn6, hp6, ht6⟩ := HP2.out.red hred
        have HP6 := Lib.hid hp6
        have HV6 := Lib.hid hv6
        have HN6 := Lib.hid hn6
        have HAB6 := Lib.hid (HAB.out.trn ht6 HNS.out)
        obtain ⟨A6, n6, c6, rfl, N6, _, _⟩ := hv6.form
        clear hred hp6 hv6 hn6 ht6 d1 N6
        obtain ⟨_, d1, _⟩ := HAB6.out.cells
        go_wp2_with fail
        refine (rread_is w6 T r s a.pl HP6.out.r).mono ?_
        intro e w7 hred
        obtain ⟨v7, rfl, hv7, hp7, ht7⟩ := HP6.out.rred hred
        have HX9 := Lib.hid (HV6.out.trn ht7 (fun k hk => (HN6.out k hk).2))
        have HY9 := Lib.hid hv7
        have HP9 := Lib.hid hp7
        obtain ⟨A7, n7, c7, rfl, N7, _, _⟩ := hv7.form
        clear hred hv7 hp7 ht7 d1 N7
        generalize readR s a.pl = q at *
        generalize ((q.2.1 : Nat) : Int) = en at *
        have tx1 := stext_of HX9.out
        have tx2 := stext_of HY9.out
        go_wp2_with fail
        refine (cached_is _ _ d _ HP9.out.d).mono ?_
        rintro e w10 ⟨v10, rfl, hown10, hb10⟩
        have HV10 := Lib.hid (ints_rowz hown10)
        have HP10 := Lib.hid (HP9.out.below hb10)
        clear hown10 hb10
        go_wp2_with fail
        refine (rcached_is _ _ r _ HP10.out.r).mono ?_
        rintro e w11 ⟨v11, rfl, hown11, hb11⟩
        have HV11 := Lib.hid (ints_rowz hown11)
        have HV10' := Lib.hid (HV10.out.below hb11)
        have HP11 := Lib.hid (HP10.out.below hb11)
        clear hown11 hb11
        have KI := Lib.hid (kints_any w11 v10 v11 _ _ HV10'.out HV11.out)
        rw [decide_eq_true rfl] at KI
        go_wp2_with fail
        refine KI.out.mono ?_
        rintro e w12 ⟨rfl, hb12⟩
        have HP12 := Lib.hid (HP11.out.below hb12)
        clear hb12
        go_wp2_with fail
        go_roundw
        case rel => exact ⟨k + 1, _, _, _, by omega, by go_num, HP12.out⟩
        case measure => simp [intOf]; omega
      · have h0' : ((q6 : Int) == 0) = false := ne_int h0
        by_cases h3 : q6 = 3
        · subst h3
          clear h0
          go_wp2_with fail
          refine (flush_is w2 S d s HP2.out.d).mono ?_
          intro e w6 hdone
          obtain ⟨rfl, S6, hp6, ht6⟩ := HP2.out.done hdone
          have HP6 := Lib.hid hp6
          clear hdone hp6 ht6
          go_wp2_with fail
          refine (rflush_is w6 T r s HP6.out.r).mono ?_
          intro e w7 hdone
          obtain ⟨rfl, T7, hp7, ht7⟩ := HP6.out.rdone hdone
          have HP9 := Lib.hid hp7
          clear hdone hp7 ht7
          have HX9 := Lib.hid (Byt.nil w7)
          have HY9 := Lib.hid (Byt.nil w7)
          generalize flushR s = q at *
          generalize ((q.1 : Nat) : Int) = en at *
          have tx1 := stext_of HX9.out
          have tx2 := stext_of HY9.out
          go_wp2_with fail
          refine (cached_is _ _ d _ HP9.out.d).mono ?_
          rintro e w10 ⟨v10, rfl, hown10, hb10⟩
          have HV10 := Lib.hid (ints_rowz hown10)
          have HP10 := Lib.hid (HP9.out.below hb10)
          clear hown10 hb10
          go_wp2_with fail
          refine (rcached_is _ _ r _ HP10.out.r).mono ?_
          rintro e w11 ⟨v11, rfl, hown11, hb11⟩
          have HV11 := Lib.hid (ints_rowz hown11)
          have HV10' := Lib.hid (HV10.out.below hb11)
          have HP11 := Lib.hid (HP10.out.below hb11)
          clear hown11 hb11
          have KI := Lib.hid (kints_any w11 v10 v11 _ _ HV10'.out HV11.out)
          rw [decide_eq_true rfl] at KI
          go_wp2_with fail
          refine KI.out.mono ?_
          rintro e w12 ⟨rfl, hb12⟩
          have HP12 := Lib.hid (HP11.out.below hb12)
          clear hb12
          go_wp2_with fail
          go_roundw
          case rel => exact ⟨k + 1, _, _, _, by omega, by go_num, HP12.out⟩
          case measure => simp [intOf]; omega
        · have h3' : ((q6 : Int) == 3) = false := ne_int h3
          by_cases h4 : q6 = 4
          · subst h4
            clear h0 h3
            have HPD := Lib.hid HP2.out.drew
            have HABD := Lib.hid (show ABlk w2.drew _ a from HAB.out)
            have HBN := Lib.hid HOK.out.n
            go_wp2_with fail
            refine wp_region_R (R := fun x y => y.heap[wr.heap.size]? = x.heap[wr.heap.size]?) (by kernel_rfl) (fun _ => rfl) (fun h k => k.trans h) (by kernel_rfl) (fun d v c a w h => by cases d <;> exact h)
              [(0, false), (1, false), (2, false), (4, false), (5, false), (6, false), (3, true), (7, true), (8, false), (9, false)] rfl (by kernel_rfl) (by kernel_rfl) ?_
            simp only [sel, List.getElem?_toArray, List.getElem?_cons_succ, List.getElem?_cons_zero]
            generalize w2.drew = wd at *
            iterate 2 (refine sch_take ?_ rfl ?_ ?_; rotate_left; (focus (intro u hu; go_simp <;> rfl)); simp only [Act.put, List.setIfInBounds_toArray, List.set_cons_zero, List.set_cons_succ])
            (refine sch_take ?_ rfl ?_ ?_; rotate_left; (focus (intro u hu; have e1 : ABlk u _ a := hu.trans HABD.out; obtain ⟨_, _, _, _, c4, _⟩ := e1.cells; clear e1 hu; go_simp <;> rfl)); simp only [Act.put, List.setIfInBounds_toArray, List.set_cons_zero, List.set_cons_succ])
            iterate 2 (refine sch_take ?_ rfl ?_ ?_; rotate_left; (focus (intro u hu; go_simp <;> rfl)); simp only [Act.put, List.setIfInBounds_toArray, List.set_cons_zero, List.set_cons_succ])
            (refine sch_take ?_ rfl ?_ ?_; rotate_left; (focus (intro u hu; have e1 : ABlk u _ a := hu.trans HABD.out; obtain ⟨_, _, _, _, c4, _⟩ := e1.cells; clear e1 hu; go_simp <;> rfl)); simp only [Act.put, List.setIfInBounds_toArray, List.set_cons_zero, List.set_cons_succ])
            refine sch_call rfl ?_
            intro K hK
            go_simp
            refine (fail_is _ S d s a.n HPD.out.d HBN.out.2).mono ?_
            intro e w6 hdone
            obtain ⟨rfl, S6, hp6, ht6⟩ := HPD.out.done hdone
            have HP6 := Lib.hid hp6
            have HQ6 := Lib.hid (ht6.block _ HABD.out.lt HNS.out)
            clear hdone hp6 ht6
            go_wp2_with fail
            refine hK _ _ HQ6.out ?_
            clear hK K
            have HAB6 := Lib.hid (show ABlk w6 _ a from HQ6.out.trans HABD.out)
            refine sch_call rfl ?_
            intro K hK
            go_simp
            refine (rfail_is _ T r s a.n HP6.out.r HBN.out).mono ?_
            rintro e w7 ⟨rfl, hr7, ht7⟩
            have HP9 := Lib.hid (show PairD w w7 S6 T d r (failS s a.n) (failS s a.n) from ⟨HP6.out.d.trn ht7 (fun k hk ht => HP6.out.apart k hk ht), hr7, HP6.out.apart, HP6.out.ls, HP6.out.lt, HP6.out.bel.trans (ht7.below HP6.out.bel.size HP6.out.lt)⟩)
            have HQ7 := Lib.hid (ht7.block _ HAB6.out.lt HNT.out)
            clear hr7 ht7
            go_wp2_with fail
            refine hK _ _ HQ7.out ?_
            clear hK K
            iterate 2 (refine sch_take ?_ rfl ?_ ?_; rotate_left; (focus (intro u hu; go_simp <;> rfl)); simp only [Act.put, List.setIfInBounds_toArray, List.set_cons_zero, List.set_cons_succ])
            refine sch_nil ?_
            have HX9 := Lib.hid (Byt.nil w7)
            have HY9 := Lib.hid (Byt.nil w7)
            have tx1 := stext_of HX9.out
            have tx2 := stext_of HY9.out
            go_wp2_with fail
            refine (cached_is _ _ d _ HP9.out.d).mono ?_
            rintro e w10 ⟨v10, rfl, hown10, hb10⟩
            have HV10 := Lib.hid (ints_rowz hown10)
            have HP10 := Lib.hid (HP9.out.below hb10)
            clear hown10 hb10
            go_wp2_with fail
            refine (rcached_is _ _ r _ HP10.out.r).mono ?_
            rintro e w11 ⟨v11, rfl, hown11, hb11⟩
            have HV11 := Lib.hid (ints_rowz hown11)
            have HV10' := Lib.hid (HV10.out.below hb11)
            have HP11 := Lib.hid (HP10.out.below hb11)
            clear hown11 hb11
            have KI := Lib.hid (kints_any w11 v10 v11 _ _ HV10'.out HV11.out)
            rw [decide_eq_true rfl] at KI
            go_wp2_with fail
            refine KI.out.mono ?_
            rintro e w12 ⟨rfl, hb12⟩
            have HP12 := Lib.hid (HP11.out.below hb12)
            clear hb12
            go_wp2_with fail
            go_roundw
            case rel => exact ⟨k + 1, _, _, _, by omega, by go_num, HP12.out⟩
            case measure => simp [intOf]; omega
          · have h4' : ((q6 : Int) == 4) = false := ne_int h4
            by_cases h5 : q6 = 5
            · subst h5
              clear h0 h3 h4
              have HKT : Hid (a.keep ≠ [] → ∀ x, a.vk.ownBlock = some x → ¬ T x) := fun hne x hx ht => by have := HOK.out.low x hx hne; have := HP2.out.lt x ht; omega
              have HPD := Lib.hid HP2.out.drew
              have HABD := Lib.hid (show ABlk w2.drew _ a from HAB.out)
              go_wp2_with fail
              refine wp_region_R (R := fun x y => y.heap[wr.heap.size]? = x.heap[wr.heap.size]?) (by kernel_rfl) (fun _ => rfl) (fun h k => k.trans h) (by kernel_rfl) (fun d v c a w h => by cases d <;> exact h)
                [(0, false), (1, false), (2, false), (5, false), (6, false), (7, false), (3, true), (4, true), (8, true), (9, false), (10, false)] rfl (by kernel_rfl) (by kernel_rfl) ?_
              simp only [sel, List.getElem?_toArray, List.getElem?_cons_succ, List.getElem?_cons_zero]
              generalize w2.drew = wd at *
              iterate 2 (refine sch_take ?_ rfl ?_ ?_; rotate_left; (focus (intro u hu; go_simp <;> rfl)); simp only [Act.put, List.setIfInBounds_toArray, List.set_cons_zero, List.set_cons_succ])
              refine sch_take _ rfl (fun u hu => exec_loadAt Try.underlying34 (cs := [a.vk, .int .i64 a.torn, .int .i64 a.bytes]) crashSize _ rfl wr.heap.size 5 rfl (ABlk.loadC (show ABlk u _ a from hu.trans HABD.out))) ?_
              simp only [Act.put, List.setIfInBounds_toArray, List.set_cons_zero, List.set_cons_succ]
              iterate 2 (refine sch_take ?_ rfl ?_ ?_; rotate_left; (focus (intro u hu; go_simp <;> rfl)); simp only [Act.put, List.setIfInBounds_toArray, List.set_cons_zero, List.set_cons_succ])
              refine sch_take _ rfl (fun u hu => exec_loadAt Try.underlying34 (cs := [a.vk, .int .i64 a.torn, .int .i64 a.bytes]) crashSize _ rfl wr.heap.size 5 rfl (ABlk.loadC (show ABlk u _ a from hu.trans HABD.out))) ?_
              simp only [Act.put, List.setIfInBounds_toArray, List.set_cons_zero, List.set_cons_succ]
              refine sch_call rfl ?_
              intro K hK
              go_simp
              refine (kcrash_any _ a.vk a.keep a.torn a.bytes (HOK.out.below HPD.out.bel).keep HKL.out).mono ?_
              rintro e w5 ⟨v5, rfl, hr5, hl5, hb5⟩
              go_wp2_with fail
              refine hK _ _ (hb5.block _ HABD.out.lt) ?_
              clear hK K
              have HP5 := Lib.hid (HPD.out.below hb5)
              have HR5 := Lib.hid hr5
              have HN5 : Hid (∀ k, v5.ownBlock = some k → ¬ S k) := fun k hk hs => by have := hl5 k hk; have := HPD.out.d.lt k hs; omega
              have HAB5 := Lib.hid (HABD.out.below hb5)
              clear hr5 hl5 hb5
              refine sch_call rfl ?_
              intro K hK
              go_simp
              refine (crash_is _ S d s v5 a.keep a.torn a.bytes HP5.out.d HR5.out HN5.out).mono ?_
              intro e w6 hdone
              obtain ⟨rfl, S6, hp6, ht6⟩ := HP5.out.done hdone
              have HP6 := Lib.hid hp6
              have HQ6 := Lib.hid (ht6.block _ HAB5.out.lt HNS.out)
              have HAB6 := Lib.hid (HAB5.out.trn ht6 HNS.out)
              clear hdone hp6 ht6
              go_wp2_with fail
              refine hK _ _ HQ6.out ?_
              clear hK K
              refine sch_call rfl ?_
              intro K hK
              go_simp
              refine (rcrash_is _ T r s a.vk a.keep a.torn a.bytes HP6.out.r (HOK.out.below HP6.out.bel).keep HKT.out).mono ?_
              intro e w7 hdone
              obtain ⟨rfl, T7, hp7, ht7⟩ := HP6.out.rdone hdone
              have HP9 := Lib.hid hp7
              have HQ7 := Lib.hid (ht7.block _ HAB6.out.lt HNT.out)
              clear hdone hp7 ht7
              go_wp2_with fail
              refine hK _ _ HQ7.out ?_
              clear hK K
              iterate 2 (refine sch_take ?_ rfl ?_ ?_; rotate_left; (focus (intro u hu; go_simp <;> rfl)); simp only [Act.put, List.setIfInBounds_toArray, List.set_cons_zero, List.set_cons_succ])
              refine sch_nil ?_
              have HX9 := Lib.hid (Byt.nil w7)
              have HY9 := Lib.hid (Byt.nil w7)
              have tx1 := stext_of HX9.out
              have tx2 := stext_of HY9.out
              go_wp2_with fail
              refine (cached_is _ _ d _ HP9.out.d).mono ?_
              rintro e w10 ⟨v10, rfl, hown10, hb10⟩
              have HV10 := Lib.hid (ints_rowz hown10)
              have HP10 := Lib.hid (HP9.out.below hb10)
              clear hown10 hb10
              go_wp2_with fail
              refine (rcached_is _ _ r _ HP10.out.r).mono ?_
              rintro e w11 ⟨v11, rfl, hown11, hb11⟩
              have HV11 := Lib.hid (ints_rowz hown11)
              have HV10' := Lib.hid (HV10.out.below hb11)
              have HP11 := Lib.hid (HP10.out.below hb11)
              clear hown11 hb11
              have KI := Lib.hid (kints_any w11 v10 v11 _ _ HV10'.out HV11.out)
              rw [decide_eq_true rfl] at KI
              go_wp2_with fail
              refine KI.out.mono ?_
              rintro e w12 ⟨rfl, hb12⟩
              have HP12 := Lib.hid (HP11.out.below hb12)
              clear hb12
              go_wp2_with fail
              go_roundw
              case rel => exact ⟨k + 1, _, _, _, by omega, by go_num, HP12.out⟩
              case measure => simp [intOf]; omega
            · have h5' : ((q6 : Int) == 5) = false := ne_int h5
              clear h0 h3 h4 h5
              have HPD := Lib.hid HP2.out.drew
              have HABD := Lib.hid (show ABlk w2.drew _ a from HAB.out)
              go_wp2_with fail
              refine wp_region_R (R := fun x y => y.heap[wr.heap.size]? = x.heap[wr.heap.size]?) (by kernel_rfl) (fun _ => rfl) (fun h k => k.trans h) (by kernel_rfl) (fun d v c a w h => by cases d <;> exact h)
                [(0, false), (1, false), (2, false), (3, false), (6, false), (7, false), (8, false), (9, false), (4, true), (5, true), (10, true), (11, true), (12, false), (13, false)] rfl (by kernel_rfl) (by kernel_rfl) ?_
              simp only [sel, List.getElem?_toArray, List.getElem?_cons_succ, List.getElem?_cons_zero]
              generalize w2.drew = wd at *
              iterate 2 (refine sch_take ?_ rfl ?_ ?_; rotate_left; (focus (intro u hu; go_simp <;> rfl)); simp only [Act.put, List.setIfInBounds_toArray, List.set_cons_zero, List.set_cons_succ])
              (refine sch_take ?_ rfl ?_ ?_; rotate_left; (focus (intro u hu; have e1 : ABlk u _ a := hu.trans HABD.out; obtain ⟨_, c1, _⟩ := e1.cells; clear e1 hu; go_simp <;> rfl)); simp only [Act.put, List.setIfInBounds_toArray, List.set_cons_zero, List.set_cons_succ])
              refine sch_take _ rfl (fun u hu => exec_loadAt Try.underlying36 (cs := actL a) actSize _ rfl wr.heap.size 0 rfl (ABlk.load (show ABlk u _ a from hu.trans HABD.out))) ?_
              simp only [Act.put, List.setIfInBounds_toArray, List.set_cons_zero, List.set_cons_succ]
              iterate 2 (refine sch_take ?_ rfl ?_ ?_; rotate_left; (focus (intro u hu; go_simp <;> rfl)); simp only [Act.put, List.setIfInBounds_toArray, List.set_cons_zero, List.set_cons_succ])
              (refine sch_take ?_ rfl ?_ ?_; rotate_left; (focus (intro u hu; have e1 : ABlk u _ a := hu.trans HABD.out; obtain ⟨_, c1, _⟩ := e1.cells; clear e1 hu; go_simp <;> rfl)); simp only [Act.put, List.setIfInBounds_toArray, List.set_cons_zero, List.set_cons_succ])
              refine sch_take _ rfl (fun u hu => exec_loadAt Try.underlying36 (cs := actL a) actSize _ rfl wr.heap.size 0 rfl (ABlk.load (show ABlk u _ a from hu.trans HABD.out))) ?_
              simp only [Act.put, List.setIfInBounds_toArray, List.set_cons_zero, List.set_cons_succ]
              refine sch_call rfl ?_
              intro K hK
              go_simp
              refine (lbytes_any _ a (HOK.out.below HPD.out.bel)).mono ?_
              rintro e w3 ⟨v3, rfl, hown3, hb3⟩
              go_wp2_with fail
              refine hK _ _ (hb3.block _ HABD.out.lt) ?_
              clear hK K
              have HP3 := Lib.hid (HPD.out.below hb3)
              have HV3 := Lib.hid hown3.byt
              have HN3 : Hid (∀ k, v3.ownBlock = some k → ¬ S k) := fun k hk hs => by have := (World.ownsRow.lt hown3 k hk).1; have := HPD.out.d.lt k hs; omega
              have HAB3 := Lib.hid (HABD.out.below hb3)
              clear hown3 hb3
              refine sch_call rfl ?_
              intro K hK
              go_simp
              refine (write_any _ S d s a.pl v3 (actB a) HP3.out.d HV3.out HN3.out).mono ?_
              intro e w4 hdone
              obtain ⟨rfl, S4, hp4, ht4⟩ := HP3.out.done hdone
              have HP4 := Lib.hid hp4
              have HQ4 := Lib.hid (ht4.block _ HAB3.out.lt HNS.out)
              have HAB4 := Lib.hid (HAB3.out.trn ht4 HNS.out)
              clear hdone hp4 ht4
              go_wp2_with fail
              refine hK _ _ HQ4.out ?_
              clear hK K
              refine sch_call rfl ?_
              intro K hK
              go_simp
              refine (lbytes_any _ a (HOK.out.below HP4.out.bel)).mono ?_
              rintro e w5 ⟨v5, rfl, hown5, hb5⟩
              go_wp2_with fail
              refine hK _ _ (hb5.block _ HAB4.out.lt) ?_
              clear hK K
              have HP5 := Lib.hid (HP4.out.below hb5)
              have HV5 := Lib.hid hown5.byt
              have HN5 : Hid (∀ k, v5.ownBlock = some k → ¬ T k) := fun k hk hs => by have := (World.ownsRow.lt hown5 k hk).1; have := HP4.out.r.lt k hs; omega
              have HAB5 := Lib.hid (HAB4.out.below hb5)
              clear hown5 hb5
              refine sch_call rfl ?_
              intro K hK
              go_simp
              refine (RW.out _ T r s a.pl v5 (actB a) HP5.out.r HV5.out HN5.out).mono ?_
              intro e w7 hdone
              obtain ⟨rfl, T7, hp7, ht7⟩ := HP5.out.rdone hdone
              have HP9 := Lib.hid hp7
              have HQ7 := Lib.hid (ht7.block _ HAB5.out.lt HNT.out)
              clear hdone hp7 ht7
              go_wp2_with fail
              refine hK _ _ HQ7.out ?_
              clear hK K
              iterate 2 (refine sch_take ?_ rfl ?_ ?_; rotate_left; (focus (intro u hu; go_simp <;> rfl)); simp only [Act.put, List.setIfInBounds_toArray, List.set_cons_zero, List.set_cons_succ])
              refine sch_nil ?_
              have HX9 := Lib.hid (Byt.nil w7)
              have HY9 := Lib.hid (Byt.nil w7)
              generalize writeR s a.pl (actB a) = q at *
              generalize ((q.1 : Nat) : Int) = en at *
              have tx1 := stext_of HX9.out
              have tx2 := stext_of HY9.out
              go_wp2_with fail
              refine (cached_is _ _ d _ HP9.out.d).mono ?_
              rintro e w10 ⟨v10, rfl, hown10, hb10⟩
              have HV10 := Lib.hid (ints_rowz hown10)
              have HP10 := Lib.hid (HP9.out.below hb10)
              clear hown10 hb10
              go_wp2_with fail
              refine (rcached_is _ _ r _ HP10.out.r).mono ?_
              rintro e w11 ⟨v11, rfl, hown11, hb11⟩
              have HV11 := Lib.hid (ints_rowz hown11)
              have HV10' := Lib.hid (HV10.out.below hb11)
              have HP11 := Lib.hid (HP10.out.below hb11)
              clear hown11 hb11
              have KI := Lib.hid (kints_any w11 v10 v11 _ _ HV10'.out HV11.out)
              rw [decide_eq_true rfl] at KI
              go_wp2_with fail
              refine KI.out.mono ?_
              rintro e w12 ⟨rfl, hb12⟩
              have HP12 := Lib.hid (HP11.out.below hb12)
              clear hb12
              go_wp2_with fail
              go_roundw
              case rel => exact ⟨k + 1, _, _, _, by omega, by go_num, HP12.out⟩
              case measure => simp [intOf]; omega
    · have hkn : ¬ (k : Int) < (len : Int) := by omega
      have HPD := Lib.hid HP.out.drew
      go_wp2_with fail
      refine wp_region_R (R := fun x y => Below x.heap.size x y) (by kernel_rfl) (fun _ => Below.refl _ _) (fun h k => h.trans (k.mono h.size)) (by kernel_rfl) (fun d v c a w h => by cases d <;> exact h)
        [(0, false), (3, false), (1, true), (2, false), (4, true), (5, false), (6, false), (7, false), (8, false), (10, false), (9, true), (11, true), (12, false), (13, false), (14, false)] rfl (by kernel_rfl) (by kernel_rfl) ?_
      simp only [sel, List.getElem?_toArray, List.getElem?_cons_succ, List.getElem?_cons_zero]
      generalize wr.drew = wd at *
      iterate 2 (refine sch_take ?_ rfl ?_ ?_; rotate_left; (focus (intro u hu; go_simp <;> rfl)); simp only [Act.put, List.setIfInBounds_toArray, List.set_cons_zero, List.set_cons_succ])
      refine sch_call rfl ?_
      intro K hK
      go_simp
      refine (image_is _ S d s HPD.out.d).mono ?_
      rintro e y1 ⟨vi, rfl, howni, hbi⟩
      go_wp2_with fail
      refine hK _ _ hbi ?_
      clear hK K
      have HVI := Lib.hid howni.byt
      have HPD := Lib.hid (HPD.out.below hbi)
      clear howni hbi
      (refine sch_take ?_ rfl ?_ ?_; rotate_left; (focus (intro u hu; have tx := stext_of (HVI.out.below hu); clear hu; go_simp <;> rfl)); simp only [Act.put, List.setIfInBounds_toArray, List.set_cons_zero, List.set_cons_succ])
      refine sch_call rfl ?_
      intro K hK
      go_simp
      refine (rimage_is _ T r s HPD.out.r).mono ?_
      rintro e y2 ⟨vj, rfl, hownj, hbj⟩
      go_wp2_with fail
      refine hK _ _ hbj ?_
      clear hK K
      have HVJ := Lib.hid hownj.byt
      have HPD := Lib.hid (HPD.out.below hbj)
      clear hownj hbj
      (refine sch_take ?_ rfl ?_ ?_; rotate_left; (focus (intro u hu; have tx := stext_of (HVJ.out.below hu); clear hu; go_simp <;> rfl)); simp only [Act.put, List.setIfInBounds_toArray, List.set_cons_zero, List.set_cons_succ])
      iterate 4 (refine sch_take ?_ rfl ?_ ?_; rotate_left; (focus (intro u hu; go_simp <;> rfl)); simp only [Act.put, List.setIfInBounds_toArray, List.set_cons_zero, List.set_cons_succ])
      refine sch_call rfl ?_
      intro K hK
      go_simp
      refine (sectors_any _ S d s HPD.out.d).mono ?_
      rintro e y3 ⟨rfl, rfl⟩
      go_wp2_with fail
      refine hK _ _ (Below.refl _ _) ?_
      clear hK K
      refine sch_call rfl ?_
      intro K hK
      go_simp
      refine (rsectors_is _ T r s HPD.out.r).mono ?_
      rintro e y4 ⟨rfl, rfl⟩
      go_wp2_with fail
      refine hK _ _ (Below.refl _ _) ?_
      clear hK K
      iterate 3 (refine sch_take ?_ rfl ?_ ?_; rotate_left; (focus (intro u hu; go_simp <;> rfl)); simp only [Act.put, List.setIfInBounds_toArray, List.set_cons_zero, List.set_cons_succ])
      refine sch_nil ?_
      go_wp2_with fail
      go_ret
      exact ⟨rfl, HPD.out.bel⟩

theorem walk (w : World) (x : Int) (v : Value) (len : Nat) (f : Nat → ActD) (_hx : -9223372036854775808 ≤ x ∧ x ≤ 9223372036854775807) (hv : Acts w v len f) :
    Calls Try.prog 3 #[.int .i64 x, v] w fun e w' => e = .returned (.bool true) ∧ Below w.heap.size w w' := by
  by_cases h : 40 < x ∨ ¬ smallA len f ∨ x < 1
  · exact walk_great w x v len f hv h
  · have h1 : smallA len f := Classical.byContradiction fun h' => h (.inr (.inl h'))
    obtain ⟨n, rfl⟩ : ∃ n : Nat, x = (n : Int) := ⟨x.toNat, by omega⟩
    exact walk_few rwrite_any w n v len f hv h1 (by omega) (by omega)

set_option maxRecDepth 100000 in
theorem lifted (os : Os) (started : os.Started) (H : Type) (enc : TypeId × Value → H) :
    ReturnsInHanded {} Try.checked os 3 .any (Rows.sectorScriptSpec.pre6 enc Try.prog Try.f3 Rows.sectorScriptRow.domain false) (Rows.sectorScriptSpec.post enc Try.prog Try.f3 false true false false) := by
  refine returnsInHanded_of_change (C := Try.checked) ownKnobs started (by kernel_rfl) Try.func3
    (ChangeSpec.witness6 (enc := enc) (C := Try.checked) false ⟨#[], #[.int .i64 0, .slice none 0 0], []⟩ 8 (by kernel_rfl) (by kernel_rfl) (by kernel_rfl) (by kernel_rfl)) ?_
  intro W base args ds gs before hval0 hW hcnd _
  have hval : ∀ (j : Nat) t v, Try.f3.params[j]? = some t → args[j]? = some v → Value.okWide Try.prog W .any base t v := hval0
  have hW' := hW
  obtain ⟨p, q, hA0, hV, rfl, hfz, hnd⟩ := hW
  have hA : DataW.TrodAll enc Try.prog W 0 (fun _ => true) true Try.f3.params.toList args.toList ds p := hA0
  rw [Try.params3] at hA hval
  obtain ⟨v0, vs0, d0, ds0, p0, q0, hargs, rfl, rfl, h0, r0⟩ := trodAll_cons hA
  obtain ⟨v1, vs1, d1, ds1, p1, q1, rfl, rfl, rfl, h1, r1⟩ := trodAll_cons r0
  obtain ⟨rfl, rfl, rfl⟩ := trodAll_nil r1
  obtain rfl : args = #[v0, v1] := by cases args; simp_all
  obtain ⟨rfl, rfl⟩ := trodVars_none hV
  obtain ⟨a0, rfl, rfl, rfl, w0⟩ := open_int Try.underlying3 (hval 0 3 v0 rfl rfl) h0
  have b0 := open_i64 w0
  have k1 := h1
  have lt1 : ∀ x ∈ p1, x.block < W.heap.size := by obtain ⟨m, hm⟩ := k1; exact DataW.trod_lt m _ _ _ hm
  obtain ⟨l1, f1, b1⟩ := open_acts (hval 1 22 v1 rfl rfl) h1
  clear hA0 hval0
  refine (walk W a0 v1 l1 f1 b0 b1).mono fun e W' ⟨he, bel⟩ => ?_
  subst he
  exact ⟨_, rfl, _, _, _, [], _, [], hW', trodAll_mk1 (shut_bool Try.underlying4 _), (trodAll_cons_mk (shut_int Try.underlying3 w0) (trodAll_cons_mk (Below.trod laidOuts (by kernel_rfl) (of_decide_eq_true (by kernel_rfl)) k1 bel lt1) trodAll_mk0)), rfl, bel.frame _, fun h => by cases h⟩

theorem over : Rows.sectorScriptRow.holds Try.pinned (OpenSpec.ofChange Rows.sectorScriptSpec) :=
  OpenClaim.holds_of_wide 3 Try.f3 rfl rfl rfl rfl rfl rfl rfl ⟨rfl, rfl, rfl, rfl, rfl⟩ rfl rfl rfl rfl rfl (by kernel_rfl) Try.func3 (by kernel_rfl)
    (of_decide_eq_true (by kernel_rfl)) (by unfold Func.isWrapper; first | (rw [if_pos (by decide +kernel)]; kernel_rfl) | (rw [if_neg (by decide +kernel)]; exact ⟨rfl, rfl⟩))
    (fun os started H enc _ => lifted os started H enc)

theorem proved : Rows.SectorScriptSaid := over
#print axioms proved
end Go.Proofs.Ytmdppdpoogbeaaa.sectorScript
