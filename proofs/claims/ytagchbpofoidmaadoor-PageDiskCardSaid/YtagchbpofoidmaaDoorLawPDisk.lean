/-
  The statement PageDisk: pages are loaded from sectors, and saved to them, as the document says. Conditions: none.
-/
import Derived.Test.YtagchbpofoidmaaDoorPgZ
import Derived.Test.YtagchbpofoidmaaDoorRowz
namespace Go.Proofs.YtagchbpofoidmaaDoor.pageDisk
open Go.ChangeShapes Go.WideShapes Go.ChangeAt Go.RowKit Go.Maps
set_option maxRecDepth 100000
set_option linter.unusedVariables false

/-- The program's disk and the document's, side by side. -/
structure PairD (w0 w : World) (S T : Nat → Prop) (d r : Nat) (s1 s2 : St) : Prop where
  d : Dsk w S d s1
  r : Ref w T r s2
  apart : ∀ k, S k → ¬ T k
  ls : ∀ k, S k → w0.heap.size ≤ k
  lt : ∀ k, T k → w0.heap.size ≤ k
  bel : Below w0.heap.size w0 w
section
variable {w0 w w' : World} {S T : Nat → Prop} {d r : Nat} {s1 s2 : St}
theorem PairD.below (h : PairD w0 w S T d r s1 s2) (hb : Below w.heap.size w w') : PairD w0 w' S T d r s1 s2 :=
  ⟨h.d.below hb, h.r.below hb, h.apart, h.ls, h.lt, h.bel.trans (hb.mono h.bel.size)⟩
theorem PairD.drew (h : PairD w0 w S T d r s1 s2) : PairD w0 w.drew S T d r s1 s2 :=
  ⟨h.d.same (Nat.le_refl _) (fun _ _ => rfl), h.r.same (Nat.le_refl _) (fun _ _ => rfl), h.apart, h.ls, h.lt, h.bel.drew⟩
theorem PairD.done {q : Nat × St} {e : Ending} (h : PairD w0 w S T d r s1 s2) (hd : Done w S d q e w') :
    e = .returned (.int .i64 ((q.1 : Nat) : Int)) ∧ ∃ S', PairD w0 w' S' T d r q.2 s2 ∧ Trn S w w' := by
  refine ⟨hd.1, more S w w', ⟨hd.2.1, h.r.trn hd.2.2 (fun k hk hs => h.apart k hs hk), fun k hk ht => ?_, fun k hk => hk.elim (h.ls k) (fun hk => Nat.le_trans h.bel.size hk.1), h.lt, h.bel.trans (hd.2.2.below h.bel.size h.ls)⟩, hd.2.2⟩
  rcases hk with hk | hk
  · exact h.apart k hk ht
  · have := h.r.lt k ht; omega
theorem PairD.rdone {q : Nat × St} {e : Ending} (h : PairD w0 w S T d r s1 s2) (hd : RDone w T r q e w') :
    e = .returned (.int .i64 ((q.1 : Nat) : Int)) ∧ ∃ T', PairD w0 w' S T' d r s1 q.2 ∧ Trn T w w' := by
  refine ⟨hd.1, more T w w', ⟨h.d.trn hd.2.2 (fun k hk ht => h.apart k hk ht), hd.2.1, fun k hk ht => ?_, h.ls, fun k hk => hk.elim (h.lt k) (fun hk => Nat.le_trans h.bel.size hk.1), h.bel.trans (hd.2.2.below h.bel.size h.lt)⟩, hd.2.2⟩
  rcases ht with ht | ht
  · exact h.apart k hk ht
  · have := h.d.lt k hk; omega
theorem PairD.red {q : List UInt8 × Nat × St} {e : Ending} (h : PairD w0 w S T d r s1 s2) (hd : Red w S d q e w') :
    ∃ v, e = .returned (.tuple #[v, .int .i64 ((q.2.1 : Nat) : Int)]) ∧ Byt w' v q.1 ∧ (∀ k, v.ownBlock = some k → ¬ S k ∧ ¬ T k) ∧ PairD w0 w' S T d r q.2.2 s2 ∧ Trn S w w' := by
  obtain ⟨v, h1, h2, h3, h4⟩ := hd
  refine ⟨v, h1, h2.byt, fun k hk => ⟨fun hs => ?_, fun ht => ?_⟩, ⟨h3, h.r.trn h4 (fun k hk hs => h.apart k hs hk), h.apart, h.ls, h.lt, h.bel.trans (h4.below h.bel.size h.ls)⟩, h4⟩
  · have := (World.ownsRow.lt h2 k hk).1; have := h.d.lt k hs; omega
  · have := (World.ownsRow.lt h2 k hk).1; have := h.r.lt k ht; omega
theorem PairD.rred {q : List UInt8 × Nat × St} {e : Ending} (h : PairD w0 w S T d r s1 s2) (hd : RRed w T r q e w') :
    ∃ v, e = .returned (.tuple #[v, .int .i64 ((q.2.1 : Nat) : Int)]) ∧ Byt w' v q.1 ∧ PairD w0 w' S T d r s1 q.2.2 ∧ Trn T w w' := by
  obtain ⟨v, h1, h2, h3, h4⟩ := hd
  exact ⟨v, h1, h2.byt, ⟨h.d.trn h4 (fun k hk ht => h.apart k hk ht), h3, h.apart, h.ls, h.lt, h.bel.trans (h4.below h.bel.size h.lt)⟩, h4⟩
theorem PairD.done2 {q : Nat × St} {e : Ending} (h : PairD w0 w S T d r s1 s2) (hd : Done w S d q e w') :
    e = .returned (.int .i64 ((q.1 : Nat) : Int)) ∧ PairD w0 w' (more S w w') T d r q.2 s2 ∧ Trn S w w' := by
  refine ⟨hd.1, ⟨hd.2.1, h.r.trn hd.2.2 (fun k hk hs => h.apart k hs hk), fun k hk ht => ?_, fun k hk => hk.elim (h.ls k) (fun hk => Nat.le_trans h.bel.size hk.1), h.lt, h.bel.trans (hd.2.2.below h.bel.size h.ls)⟩, hd.2.2⟩
  rcases hk with hk | hk
  · exact h.apart k hk ht
  · have := h.r.lt k ht; omega
theorem PairD.rdone2 {q : Nat × St} {e : Ending} (h : PairD w0 w S T d r s1 s2) (hd : RDone w T r q e w') :
    e = .returned (.int .i64 ((q.1 : Nat) : Int)) ∧ PairD w0 w' S (more T w w') d r s1 q.2 ∧ Trn T w w' := by
  refine ⟨hd.1, ⟨h.d.trn hd.2.2 (fun k hk ht => h.apart k hk ht), hd.2.1, fun k hk ht => ?_, h.ls, fun k hk => hk.elim (h.lt k) (fun hk => Nat.le_trans h.bel.size hk.1), h.bel.trans (hd.2.2.below h.bel.size h.lt)⟩, hd.2.2⟩
  rcases ht with ht | ht
  · exact h.apart k hk ht
  · have := h.d.lt k hk; omega
end
/-- Bytes that lie apart from both disks. -/
def Off (w : World) (S T : Nat → Prop) (v : Value) (l : List UInt8) : Prop := Byt w v l ∧ ∀ j, v.ownBlock = some j → (¬ S j ∧ ¬ T j) ∧ j < w.heap.size
theorem Off.below {w w' : World} {S T : Nat → Prop} {v : Value} {l : List UInt8} (h : Off w S T v l) (hb : Below w.heap.size w w') : Off w' S T v l := ⟨h.1.below hb, fun j e => ⟨(h.2 j e).1, Nat.lt_of_lt_of_le (h.2 j e).2 hb.size⟩⟩
theorem Off.trnS {w w' : World} {S T : Nat → Prop} {v : Value} {l : List UInt8} (h : Off w S T v l) (ht : Trn S w w') : Off w' S T v l := ⟨h.1.trn ht (fun j e => (h.2 j e).1.1), fun j e => ⟨(h.2 j e).1, Nat.lt_of_lt_of_le (h.2 j e).2 ht.size⟩⟩
theorem Off.trnT {w w' : World} {S T : Nat → Prop} {v : Value} {l : List UInt8} (h : Off w S T v l) (ht : Trn T w w') : Off w' S T v l := ⟨h.1.trn ht (fun j e => (h.2 j e).1.2), fun j e => ⟨(h.2 j e).1, Nat.lt_of_lt_of_le (h.2 j e).2 ht.size⟩⟩
theorem Off.moreS {w w' : World} {S T : Nat → Prop} {v : Value} {l : List UInt8} (h : Off w S T v l) (ht : Trn S w w') : Off w' (more S w w') T v l := ⟨(h.trnS ht).1, fun j e => ⟨⟨fun hs => hs.elim (h.2 j e).1.1 (fun hs => by have := (h.2 j e).2; omega), (h.2 j e).1.2⟩, ((h.trnS ht).2 j e).2⟩⟩
theorem Off.moreT {w w' : World} {S T : Nat → Prop} {v : Value} {l : List UInt8} (h : Off w S T v l) (ht : Trn T w w') : Off w' S (more T w w') v l := ⟨(h.trnT ht).1, fun j e => ⟨⟨(h.2 j e).1.1, fun hs => hs.elim (h.2 j e).1.2 (fun hs => by have := (h.2 j e).2; omega)⟩, ((h.trnT ht).2 j e).2⟩⟩
def Byted (w : World) (e : Ending) (w' : World) : Prop := ∃ (v : Value) (lb : List UInt8) (er : Int), e = .returned (.tuple #[v, .int .i64 er]) ∧ Byt w' v lb ∧ lb.length ≤ 4096 ∧ (∀ j, v.ownBlock = some j → w.heap.size ≤ j ∧ j < w'.heap.size) ∧ Below w.heap.size w w'
theorem r5bytes_any (w : World) (k : Int) (n : Nat) (vb : Value) (l : List UInt8) (hv : Byt w vb l) (hn : n < 4294967296) :
    Calls Tryd.prog 16 #[.agg (pageV k (n : Int) vb)] w (Byted w) := by
  by_cases h : (1 ≤ k ∧ k ≤ 7) ∧ l.length ≤ 4080
  · obtain ⟨kk, rfl⟩ : ∃ kk : Nat, k = (kk : Int) := ⟨k.toNat, by omega⟩
    refine (r5bytes_ok w kk n vb l hv (by omega) (by omega) h.2 hn).mono ?_
    rintro e w' ⟨v, rfl, hown, hb⟩
    exact ⟨v, _, 0, rfl, hown.byt, by rw [pageB_len h.2]; omega, fun j e => World.ownsRow.lt hown j e, hb⟩
  · refine (r5bytes_bad w k n vb l hv h).mono ?_
    rintro e w' ⟨rfl, hb⟩
    exact ⟨_, [], 2, rfl, Byt.nil _, by simp, fun j e => (by cases e), hb⟩
def DiskRel (w0 : World) (len d r : Nat) (vb : Value) (lb : List UInt8) (i : Value) (wr : World) : Prop :=
  ∃ (k : Nat) (s : St) (S T : Nat → Prop), k ≤ len ∧ i = .int .i64 (k : Int) ∧ PairD w0 wr S T d r s s ∧ Off wr S T vb lb
set_option maxRecDepth 100000 in
set_option maxHeartbeats 40000000 in
theorem walk_great (w : World) (x y : Int) (v2 : Value) (zs : List Int) (k : Int) (n : Nat) (vb : Value) (l : List UInt8) (hy : -9223372036854775808 ≤ y ∧ y ≤ 9223372036854775807) (hz : Rowz w v2 (zs.map (Value.int .i64))) (hv : Byt w vb l) (hn : n < 4294967296) (h : 40 < x ∨ 20 < zs.length ∨ 4080 < l.length) :
    Calls Tryd.prog 5 #[.int .i64 x, .int .i64 y, v2, .agg (pageV k (n : Int) vb)] w fun e w' => e = .returned (.bool true) ∧ Below w.heap.size w w' := by
  obtain ⟨A, m, c, rfl, N, hnc, hcm⟩ := hv.form
  obtain ⟨Az, len, cz, rfl, Nz, hncz, hcmz⟩ := hz.form
  have NZ : Hid (len = zs.length) := Nz.out.trans (List.length_map ..)
  obtain ⟨w0, hw0⟩ : ∃ w0, w.alloc (.cells (pageV k n (.slice A m c)) 28) = w0 := ⟨_, rfl⟩
  have hb0 : Below w.heap.size w w0 := hw0 ▸ below_new w _
  have HX0 : Hid (Box w0 w.heap.size k n (.slice A m c)) := hw0 ▸ Box.new w k n _
  have HB0 := Lib.hid hb0
  have HW0 := Lib.hid hw0
  have HV := Lib.hid hv
  have HZ := Lib.hid hz
  have HN := Lib.hid hn
  have HY := Lib.hid hy
  unfold pageV at HW0 ⊢
  clear hv hz hw0 hb0 hy hn Nz
  by_cases h1 : (40 : Int) < x
  · clear h
    go_enter Tryd.func5, Tryd.ntmps5
    go_wp2_with fail
    rw [HW0.out]
    refine (lives5_any _).mono ?_
    rintro e w1 ⟨rfl, hb1⟩
    have HX1 := Lib.hid (HX0.out.below hb1)
    have HB1 := Lib.hid (HB0.out.trans (hb1.mono HB0.out.size))
    obtain ⟨d0, d1, d2⟩ := HX1.out.cells
    clear hb1
    go_wp2_with fail
    go_ret
    exact ⟨rfl, HB1.out⟩
  · by_cases h2 : (20 : Int) < (len : Int)
    · clear h
      go_enter Tryd.func5, Tryd.ntmps5
      go_wp2_with fail
      rw [HW0.out]
      refine (lives5_any _).mono ?_
      rintro e w1 ⟨rfl, hb1⟩
      have HX1 := Lib.hid (HX0.out.below hb1)
      have HB1 := Lib.hid (HB0.out.trans (hb1.mono HB0.out.size))
      obtain ⟨d0, d1, d2⟩ := HX1.out.cells
      clear hb1
      go_wp2_with fail
      go_ret
      exact ⟨rfl, HB1.out⟩
    · have h3 : (4080 : Int) < (m : Int) := by have := N.out; have := NZ.out; omega
      clear h
      go_enter Tryd.func5, Tryd.ntmps5
      go_wp2_with fail
      rw [HW0.out]
      refine (lives5_any _).mono ?_
      rintro e w1 ⟨rfl, hb1⟩
      have HX1 := Lib.hid (HX0.out.below hb1)
      have HB1 := Lib.hid (HB0.out.trans (hb1.mono HB0.out.size))
      obtain ⟨d0, d1, d2⟩ := HX1.out.cells
      clear hb1
      go_wp2_with fail
      go_ret
      exact ⟨rfl, HB1.out⟩
set_option maxRecDepth 100000 in
set_option maxHeartbeats 40000000 in
theorem walk_bad (w : World) (x y : Int) (v2 : Value) (zs : List Int) (k : Int) (n : Nat) (vb : Value) (l : List UInt8) (hy : -9223372036854775808 ≤ y ∧ y ≤ 9223372036854775807) (hz : Rowz w v2 (zs.map (Value.int .i64))) (hv : Byt w vb l) (hn : n < 4294967296) (h : x ≤ 40 ∧ zs.length ≤ 20 ∧ l.length ≤ 4080) (h0 : x < 1) :
    Calls Tryd.prog 5 #[.int .i64 x, .int .i64 y, v2, .agg (pageV k (n : Int) vb)] w fun e w' => e = .returned (.bool true) ∧ Below w.heap.size w w' := by
  obtain ⟨A, m, c, rfl, N, hnc, hcm⟩ := hv.form
  obtain ⟨Az, len, cz, rfl, Nz, hncz, hcmz⟩ := hz.form
  have NZ : Hid (len = zs.length) := Nz.out.trans (List.length_map ..)
  obtain ⟨w0, hw0⟩ : ∃ w0, w.alloc (.cells (pageV k n (.slice A m c)) 28) = w0 := ⟨_, rfl⟩
  have hb0 : Below w.heap.size w w0 := hw0 ▸ below_new w _
  have HX0 : Hid (Box w0 w.heap.size k n (.slice A m c)) := hw0 ▸ Box.new w k n _
  have HB0 := Lib.hid hb0
  have HW0 := Lib.hid hw0
  have HV := Lib.hid hv
  have HZ := Lib.hid hz
  have HN := Lib.hid hn
  have HY := Lib.hid hy
  unfold pageV at HW0 ⊢
  clear hv hz hw0 hb0 hy hn Nz
  have h1 : ¬ (40 : Int) < x := by omega
  have h2 : ¬ (20 : Int) < (len : Int) := by have := NZ.out; omega
  have h3 : ¬ (4080 : Int) < (m : Int) := by have := N.out; omega
  clear h
  go_enter Tryd.func5, Tryd.ntmps5
  go_wp2_with fail
  rw [HW0.out]
  refine (lives5_any _).mono ?_
  rintro e w1 ⟨rfl, hb1⟩
  have HX1 := Lib.hid (HX0.out.below hb1)
  have HB1 := Lib.hid (HB0.out.trans (hb1.mono HB0.out.size))
  obtain ⟨d0, d1, d2⟩ := HX1.out.cells
  clear hb1
  go_wp2_with fail
  refine (snew_bad _ x (.inl h0)).mono ?_
  rintro e w2 ⟨rfl, rfl⟩
  go_wp2_with fail
  refine (rnew_bad _ x (.inl h0)).mono ?_
  rintro e w2 ⟨rfl, rfl⟩
  go_wp2_with fail
  go_ret
  exact ⟨rfl, HB1.out⟩
set_option maxRecDepth 100000 in
set_option maxHeartbeats 40000000 in
theorem walk_ok (w : World) (x y : Int) (v2 : Value) (zs : List Int) (k : Int) (n : Nat) (vb : Value) (l : List UInt8) (hy : -9223372036854775808 ≤ y ∧ y ≤ 9223372036854775807) (hz : Rowz w v2 (zs.map (Value.int .i64))) (hv : Byt w vb l) (hn : n < 4294967296) (h : x ≤ 40 ∧ zs.length ≤ 20 ∧ l.length ≤ 4080) (h0 : 1 ≤ x) :
    Calls Tryd.prog 5 #[.int .i64 x, .int .i64 y, v2, .agg (pageV k (n : Int) vb)] w fun e w' => e = .returned (.bool true) ∧ Below w.heap.size w w' := by
  obtain ⟨A, m, c, rfl, N, hnc, hcm⟩ := hv.form
  obtain ⟨Az, len, cz, rfl, Nz, hncz, hcmz⟩ := hz.form
  have NZ : Hid (len = zs.length) := Nz.out.trans (List.length_map ..)
  obtain ⟨w0, hw0⟩ : ∃ w0, w.alloc (.cells (pageV k n (.slice A m c)) 28) = w0 := ⟨_, rfl⟩
  have hb0 : Below w.heap.size w w0 := hw0 ▸ below_new w _
  have HX0 : Hid (Box w0 w.heap.size k n (.slice A m c)) := hw0 ▸ Box.new w k n _
  have HB0 := Lib.hid hb0
  have HW0 := Lib.hid hw0
  have HV := Lib.hid hv
  have HZ := Lib.hid hz
  have HN := Lib.hid hn
  have HY := Lib.hid hy
  unfold pageV at HW0 ⊢
  clear hv hz hw0 hb0 hy hn Nz
  have h1 : ¬ (40 : Int) < x := by omega
  have h2 : ¬ (20 : Int) < (len : Int) := by have := NZ.out; omega
  have h3 : ¬ (4080 : Int) < (m : Int) := by have := N.out; omega
  obtain ⟨n0, rfl⟩ : ∃ n0 : Nat, x = (n0 : Int) := ⟨x.toNat, by omega⟩
  have HN1 : Hid (0 < n0) := by rw [Hid]; omega
  have HN40 : Hid (n0 ≤ 40) := by rw [Hid]; omega
  clear h h0
  go_enter Tryd.func5, Tryd.ntmps5
  go_wp2_with fail
  rw [HW0.out]
  refine (lives5_any _).mono ?_
  rintro e w1 ⟨rfl, hb1⟩
  have HX1 := Lib.hid (HX0.out.below hb1)
  have HB1 := Lib.hid (HB0.out.trans (hb1.mono HB0.out.size))
  obtain ⟨d0, d1, d2⟩ := HX1.out.cells
  clear hb1
  go_wp2_with fail
  clear d0 d1 d2
  refine (snew_any _ n0 HN1.out (by have := HN40.out; omega)).mono ?_
  rintro e w3 ⟨d, rfl, hd3, hb3⟩
  have HB3 := Lib.hid (HB1.out.trans (hb3.mono HB1.out.size))
  have HX3 := Lib.hid (HX1.out.below hb3)
  have HD3 := Lib.hid hd3
  clear hd3 hb3
  go_wp2_with fail
  refine (rnew_any _ n0 HN1.out (by have := HN40.out; omega)).mono ?_
  rintro e w4 ⟨r, rfl, hr4, hb4⟩
  obtain ⟨S, hS⟩ : ∃ S : Nat → Prop, S = fun k => w1.heap.size ≤ k ∧ k < w3.heap.size := ⟨_, rfl⟩
  obtain ⟨T, hT⟩ : ∃ T : Nat → Prop, T = fun k => w3.heap.size ≤ k ∧ k < w4.heap.size := ⟨_, rfl⟩
  have HP4 : Hid (PairD w w4 S T d r (newS n0) (newS n0)) := by
    rw [hS, hT]
    exact ⟨HD3.out.below hb4, hr4, fun k h1 h2 => by omega, fun k hk => Nat.le_trans HB1.out.size hk.1, fun k hk => Nat.le_trans HB3.out.size hk.1, HB3.out.trans (hb4.mono HB3.out.size)⟩
  have HX4 := Lib.hid (HX3.out.below hb4)
  clear hr4 hb4 hS hT HD3 HB3 HX3
  obtain ⟨d0, d1, d2⟩ := HX4.out.cells
  go_wp2_with fail
  clear d0 d1 d2
  refine (r5bytes_any _ k n _ l (HV.out.below HP4.out.bel) HN.out).mono ?_
  rintro e w5 ⟨vq, lb, er, rfl, hbq, hlq, hoq, hb5⟩
  have HP5 := Lib.hid (HP4.out.below hb5)
  have HO5 : Hid (Off w5 S T vq lb) := ⟨hbq, fun j e => ⟨⟨fun hs => by have := HP4.out.d.lt j hs; have := (hoq j e).1; omega, fun hs => by have := HP4.out.r.lt j hs; have := (hoq j e).1; omega⟩, (hoq j e).2⟩⟩
  have HLB := Lib.hid hlq
  obtain ⟨Ab, nb, cb, rfl, Nb, hncb, hcmb⟩ := hbq.form
  clear hbq hlq hoq hb5 HP4 HX4
  go_wp2_with fail
  refine (fail_is w5 S d _ y HP5.out.d HY.out.2).mono ?_
  intro e w6 hdone
  obtain ⟨rfl, hp6, ht6⟩ := HP5.out.done2 hdone
  have HP6 := Lib.hid hp6
  have HO6 := Lib.hid (HO5.out.moreS ht6)
  clear hdone hp6 ht6
  go_wp2_with fail
  refine (rfail_is w6 T r _ y HP6.out.r HY.out).mono ?_
  rintro e w7 ⟨rfl, hr7, ht7⟩
  obtain ⟨_, hp7, _⟩ := HP6.out.rdone2 (q := (0, failS (newS n0) y)) (e := .returned (.int .i64 0)) ⟨rfl, hr7.more ht7.size HP6.out.r.lt, ht7⟩
  have HP7 := Lib.hid hp7
  have HO7 := Lib.hid (HO6.out.moreT ht7)
  clear hr7 ht7 hp7 HP5 HP6 HO5 HO6
  go_wp2_with fail
  go_loopw [15] (fun i wr => DiskRel w len d r (.slice Ab nb cb) lb i wr) (fun i _ => len - (intOf i).toNat)
  case atStart => exact ⟨0, _, _, _, by omega, rfl, HP7.out, HO7.out⟩
  case round =>
    clear HP7 HO7 HB1 HX1
    obtain ⟨k, s, S, T, hk, rfl, hpr, hof⟩ := hrel
    have HP := Lib.hid hpr
    have HO := Lib.hid hof
    clear hpr hof
    by_cases hlt : k < len
    · have hkn : (k : Int) < (len : Int) := by omega
      obtain ⟨b, off, rfl, hb, hc⟩ := HZ.out.at (k := k) (by rw [List.length_map]; have := NZ.out; omega)
      obtain ⟨z, hzz⟩ : ∃ z : Int, ∀ hj, (zs.map (Value.int .i64))[k]'hj = .int .i64 z := ⟨zs[k]'(by have := NZ.out; omega), fun hj => by simp⟩
      have HCW : Hid (∀ W, Below w.heap.size w W → W.cell? ⟨b, off + k, none⟩ = some (.int .i64 z)) := fun W hW => (hW.cell (p := ⟨b, off + k, none⟩) hb).trans ((hc k (by rw [List.length_map]; have := NZ.out; omega)).trans (congrArg some (hzz _)))
      clear hc hb hzz
      by_cases hp : k % 2 = 0
      · have hp1 : (k : Int) % 2 = 0 := by omega
        have hp2 : (k : Int).tmod 2 = 0 := by rw [Int.tmod_eq_emod_of_nonneg (by omega)]; exact hp1
        have HPD := Lib.hid HP.out.drew
        have HOD : Hid (Off wr.drew S T (.slice Ab nb cb) lb) := HO.out.below (Below.refl _ _).drew
        go_wp2_with fail
        refine wp_region_R (R := fun x y => Below w.heap.size x y) (by kernel_rfl) (fun _ => Below.refl _ _) (fun h k => h.trans k) (by kernel_rfl) (fun d v c a w h => by cases d <;> exact h)
          [(0, false), (1, false), (2, false), (3, false), (4, false), (5, false), (8, false), (9, false), (10, false), (11, false), (12, false), (13, false), (6, true), (7, true), (14, true), (15, false), (16, false)] rfl (by kernel_rfl) (by kernel_rfl) ?_
        simp only [sel, List.getElem?_toArray, List.getElem?_cons_succ, List.getElem?_cons_zero]
        generalize wr.drew = wd at *
        iterate 4 (refine sch_take ?_ rfl ?_ ?_; rotate_left; (focus (intro u hu; go_simp <;> rfl)); simp only [Act.put, List.setIfInBounds_toArray, List.set_cons_zero, List.set_cons_succ])
        (refine sch_take ?_ rfl ?_ ?_; rotate_left; (focus (intro u hu; have cc := HCW.out u (HPD.out.bel.trans hu); clear hu; go_simp <;> rfl)); simp only [Act.put, List.setIfInBounds_toArray, List.set_cons_zero, List.set_cons_succ])
        iterate 5 (refine sch_take ?_ rfl ?_ ?_; rotate_left; (focus (intro u hu; go_simp <;> rfl)); simp only [Act.put, List.setIfInBounds_toArray, List.set_cons_zero, List.set_cons_succ])
        (refine sch_take ?_ rfl ?_ ?_; rotate_left; (focus (intro u hu; have cc := HCW.out u (HPD.out.bel.trans hu); clear hu; go_simp <;> rfl)); simp only [Act.put, List.setIfInBounds_toArray, List.set_cons_zero, List.set_cons_succ])
        (refine sch_take ?_ rfl ?_ ?_; rotate_left; (focus (intro u hu; go_simp <;> rfl)); simp only [Act.put, List.setIfInBounds_toArray, List.set_cons_zero, List.set_cons_succ])
        refine sch_call rfl ?_
        intro K hK
        go_simp
        refine (kitown_any _ _ lb HOD.out.1 (by have := HLB.out; omega)).mono ?_
        rintro e w4 ⟨v4, rfl, hown4, hb4⟩
        go_wp2_with fail
        refine hK _ _ (hb4.mono HPD.out.bel.size) ?_
        clear hK K
        have HP4 := Lib.hid (HPD.out.below hb4)
        have HO4 := Lib.hid (HOD.out.below hb4)
        have HV4 := Lib.hid hown4.byt
        have HN4 : Hid (∀ k, v4.ownBlock = some k → ¬ S k) := fun k hk hs => by have := (World.ownsRow.lt hown4 k hk).1; have := HPD.out.d.lt k hs; omega
        have HL4 : Hid (∀ k, v4.ownBlock = some k → k < w4.heap.size) := fun k hk => (World.ownsRow.lt hown4 k hk).2
        clear hown4 hb4
        refine sch_call rfl ?_
        intro K hK
        go_simp
        refine (save_is _ S d s z v4 lb HP4.out.d HV4.out HN4.out HL4.out).mono ?_
        intro e w5 hdone
        obtain ⟨rfl, hp5, ht5⟩ := HP4.out.done2 hdone
        go_wp2_with fail
        refine hK _ _ (ht5.below HP4.out.bel.size HP4.out.ls) ?_
        clear hK K
        have HP5 := Lib.hid hp5
        have HO5 := Lib.hid (HO4.out.moreS ht5)
        clear hdone hp5 ht5
        refine sch_call rfl ?_
        intro K hK
        go_simp
        refine (r5save_is _ T r s z _ lb HP5.out.r HO5.out.1 (fun j e => (HO5.out.2 j e).1.2) (fun j e => (HO5.out.2 j e).2)).mono ?_
        intro e w6 hdone
        obtain ⟨rfl, hp6, ht6⟩ := HP5.out.rdone2 hdone
        go_wp2_with fail
        refine hK _ _ (ht6.below HP5.out.bel.size HP5.out.lt) ?_
        clear hK K
        have HP6 := Lib.hid hp6
        have HO6 := Lib.hid (HO5.out.moreT ht6)
        clear hdone hp6 ht6
        iterate 2 (refine sch_take ?_ rfl ?_ ?_; rotate_left; (focus (intro u hu; go_simp <;> rfl)); simp only [Act.put, List.setIfInBounds_toArray, List.set_cons_zero, List.set_cons_succ])
        refine sch_nil ?_
        generalize saveP s z lb = q at *
        generalize ((q.1 : Nat) : Int) = en at *
        have c1 := HCW.out w6 HP6.out.bel
        go_wp2_with fail
        refine (load_is w6 _ d q.2 z HP6.out.d).mono ?_
        intro e w7 hred
        obtain ⟨v7, rfl, hv7, hn7, hp7, ht7⟩ := HP6.out.red hred
        have HP7 := Lib.hid hp7
        have HV7 := Lib.hid hv7
        have HN7 := Lib.hid hn7
        have HO7 := Lib.hid (HO6.out.trnS ht7)
        obtain ⟨A7, n7, c7, rfl, N7, _, _⟩ := hv7.form
        clear hred hp7 hv7 hn7 ht7 c1 N7
        have c1 := HCW.out w7 HP7.out.bel
        go_wp2_with fail
        refine (r5load_is w7 _ r q.2 z HP7.out.r).mono ?_
        intro e w8 hred
        obtain ⟨v8, rfl, hv8, hp8, ht8⟩ := HP7.out.rred hred
        have HX8 := Lib.hid (HV7.out.trn ht8 (fun k hk => (HN7.out k hk).2))
        have HY8 := Lib.hid hv8
        have HP8 := Lib.hid hp8
        have HO8 := Lib.hid (HO7.out.trnT ht8)
        obtain ⟨A8, n8, c8, rfl, N8, _, _⟩ := hv8.form
        clear hred hp8 hv8 ht8 c1 N8
        generalize loadP q.2 z = p at *
        generalize ((p.2.1 : Nat) : Int) = ep at *
        have tx1 := stext_of HX8.out
        have tx2 := stext_of HY8.out
        go_wp2_with fail
        refine (pages_is w8 _ d _ HP8.out.d).mono ?_
        rintro e w9 ⟨rfl, rfl⟩
        go_wp2_with fail
        refine (r5pages_is w8 _ r _ HP8.out.r).mono ?_
        rintro e w9 ⟨rfl, rfl⟩
        go_wp2_with fail
        go_roundw
        case rel => exact ⟨k + 1, p.2.2, _, _, by omega, by go_num, HP8.out, HO8.out⟩
        case measure => simp [intOf]; omega
      · have hp1 : (k : Int) % 2 = 1 := by omega
        have hp2 : (k : Int).tmod 2 = 1 := by rw [Int.tmod_eq_emod_of_nonneg (by omega)]; exact hp1
        have c1 := HCW.out wr HP.out.bel
        go_wp2_with fail
        refine (load_is wr _ d s z HP.out.d).mono ?_
        intro e w7 hred
        obtain ⟨v7, rfl, hv7, hn7, hp7, ht7⟩ := HP.out.red hred
        have HP7 := Lib.hid hp7
        have HV7 := Lib.hid hv7
        have HN7 := Lib.hid hn7
        have HO7 := Lib.hid (HO.out.trnS ht7)
        obtain ⟨A7, n7, c7, rfl, N7, _, _⟩ := hv7.form
        clear hred hp7 hv7 hn7 ht7 c1 N7
        have c1 := HCW.out w7 HP7.out.bel
        go_wp2_with fail
        refine (r5load_is w7 _ r s z HP7.out.r).mono ?_
        intro e w8 hred
        obtain ⟨v8, rfl, hv8, hp8, ht8⟩ := HP7.out.rred hred
        have HX8 := Lib.hid (HV7.out.trn ht8 (fun k hk => (HN7.out k hk).2))
        have HY8 := Lib.hid hv8
        have HP8 := Lib.hid hp8
        have HO8 := Lib.hid (HO7.out.trnT ht8)
        obtain ⟨A8, n8, c8, rfl, N8, _, _⟩ := hv8.form
        clear hred hp8 hv8 ht8 c1 N8
        generalize loadP s z = p at *
        generalize ((p.2.1 : Nat) : Int) = ep at *
        have tx1 := stext_of HX8.out
        have tx2 := stext_of HY8.out
        go_wp2_with fail
        refine (pages_is w8 _ d _ HP8.out.d).mono ?_
        rintro e w9 ⟨rfl, rfl⟩
        go_wp2_with fail
        refine (r5pages_is w8 _ r _ HP8.out.r).mono ?_
        rintro e w9 ⟨rfl, rfl⟩
        go_wp2_with fail
        go_roundw
        case rel => exact ⟨k + 1, p.2.2, _, _, by omega, by go_num, HP8.out, HO8.out⟩
        case measure => simp [intOf]; omega
    · have hkn : ¬ (k : Int) < (len : Int) := by omega
      have HPD := Lib.hid HP.out.drew
      go_wp2_with fail
      refine wp_region_R (R := fun x y => Below x.heap.size x y) (by kernel_rfl) (fun _ => Below.refl _ _) (fun h k => h.trans (k.mono h.size)) (by kernel_rfl) (fun d v c a w h => by cases d <;> exact h)
        [(0, false), (2, false), (1, true), (3, true), (4, true), (5, false), (6, false), (9, false), (7, true), (8, false), (10, true), (11, false), (12, false), (13, false), (14, false)] rfl (by kernel_rfl) (by kernel_rfl) ?_
      simp only [sel, List.getElem?_toArray, List.getElem?_cons_succ, List.getElem?_cons_zero]
      generalize wr.drew = wd at *
      iterate 2 (refine sch_take ?_ rfl ?_ ?_; rotate_left; (focus (intro u hu; go_simp <;> rfl)); simp only [Act.put, List.setIfInBounds_toArray, List.set_cons_zero, List.set_cons_succ])
      refine sch_call rfl ?_
      intro K hK
      go_simp
      refine (cached_is _ S d s HPD.out.d).mono ?_
      rintro e y1 ⟨vi, rfl, howni, hbi⟩
      go_wp2_with fail
      refine hK _ _ hbi ?_
      clear hK K
      have HVI := Lib.hid (ints_rowz howni)
      have HPD := Lib.hid (HPD.out.below hbi)
      clear howni hbi
      refine sch_call rfl ?_
      intro K hK
      go_simp
      refine (rcached_is _ T r s HPD.out.r).mono ?_
      rintro e y2 ⟨vj, rfl, hownj, hbj⟩
      go_wp2_with fail
      refine hK _ _ hbj ?_
      clear hK K
      have HVI := Lib.hid (HVI.out.below hbj)
      have HVJ := Lib.hid (ints_rowz hownj)
      have HPD := Lib.hid (HPD.out.below hbj)
      clear hownj hbj
      refine sch_call rfl ?_
      intro K hK
      go_simp
      refine (kints_any _ _ _ _ _ HVI.out HVJ.out).mono ?_
      rintro e y3 ⟨rfl, hb3⟩
      rw [decide_eq_true rfl]
      go_wp2_with fail
      refine hK _ _ hb3 ?_
      clear hK K
      have HPD := Lib.hid (HPD.out.below hb3)
      clear hb3
      iterate 3 (refine sch_take ?_ rfl ?_ ?_; rotate_left; (focus (intro u hu; go_simp <;> rfl)); simp only [Act.put, List.setIfInBounds_toArray, List.set_cons_zero, List.set_cons_succ])
      refine sch_call rfl ?_
      intro K hK
      go_simp
      refine (image_is _ S d s HPD.out.d).mono ?_
      rintro e y4 ⟨vk, rfl, hownk, hbk⟩
      go_wp2_with fail
      refine hK _ _ hbk ?_
      clear hK K
      have HVK := Lib.hid hownk.byt
      have HPD := Lib.hid (HPD.out.below hbk)
      clear hownk hbk
      (refine sch_take ?_ rfl ?_ ?_; rotate_left; (focus (intro u hu; have tx := stext_of (HVK.out.below hu); clear hu; go_simp <;> rfl)); simp only [Act.put, List.setIfInBounds_toArray, List.set_cons_zero, List.set_cons_succ])
      refine sch_call rfl ?_
      intro K hK
      go_simp
      refine (rimage_is _ T r s HPD.out.r).mono ?_
      rintro e y5 ⟨vl, rfl, hownl, hbl⟩
      go_wp2_with fail
      refine hK _ _ hbl ?_
      clear hK K
      have HVL := Lib.hid hownl.byt
      have HPD := Lib.hid (HPD.out.below hbl)
      clear hownl hbl
      (refine sch_take ?_ rfl ?_ ?_; rotate_left; (focus (intro u hu; have tx := stext_of (HVL.out.below hu); clear hu; go_simp <;> rfl)); simp only [Act.put, List.setIfInBounds_toArray, List.set_cons_zero, List.set_cons_succ])
      iterate 3 (refine sch_take ?_ rfl ?_ ?_; rotate_left; (focus (intro u hu; go_simp <;> rfl)); simp only [Act.put, List.setIfInBounds_toArray, List.set_cons_zero, List.set_cons_succ])
      refine sch_nil ?_
      go_wp2_with fail
      go_ret
      exact ⟨rfl, HPD.out.bel⟩

theorem walk (w : World) (x y : Int) (v2 : Value) (zs : List Int) (k : Int) (n : Nat) (vb : Value) (l : List UInt8) (_hx : -9223372036854775808 ≤ x ∧ x ≤ 9223372036854775807) (hy : -9223372036854775808 ≤ y ∧ y ≤ 9223372036854775807) (hz : Rowz w v2 (zs.map (Value.int .i64))) (hv : Byt w vb l) (_hk : -9223372036854775808 ≤ k ∧ k ≤ 9223372036854775807) (hn : n < 4294967296) :
    Calls Tryd.prog 5 #[.int .i64 x, .int .i64 y, v2, .agg (pageV k (n : Int) vb)] w fun e w' => e = .returned (.bool true) ∧ Below w.heap.size w w' := by
  by_cases h : 40 < x ∨ 20 < zs.length ∨ 4080 < l.length
  · exact walk_great w x y v2 zs k n vb l hy hz hv hn h
  · by_cases h0 : x < 1
    · exact walk_bad w x y v2 zs k n vb l hy hz hv hn (by omega) h0
    · exact walk_ok w x y v2 zs k n vb l hy hz hv hn (by omega) (by omega)

set_option maxRecDepth 100000 in
theorem lifted (os : Os) (started : os.Started) (H : Type) (enc : TypeId × Value → H) :
    ReturnsInHanded {} Tryd.checked os 5 .any (fun w args => (Rows.pageDiskSpec.pre enc Tryd.prog Tryd.f5 Rows.pageDiskRow.domain false w args ∧ laidMetH Tryd.prog Rows.pageDiskRow.laid w) ∧ sizedMet enc Tryd.prog Tryd.f5 (OpenSpec.ofChange Rows.pageDiskSpec) false w args) (Rows.pageDiskSpec.post enc Tryd.prog Tryd.f5 false true false false) := by
  refine returnsInHanded_of_change_and (C := Tryd.checked) (X := fun w _ => laidMetH Tryd.prog Rows.pageDiskRow.laid w) (fun _ _ _ hh h => h.of_heap hh) ownKnobs started (by kernel_rfl) Tryd.func5
    (ChangeSpec.witness_shaped (enc := enc) (C := Tryd.checked) (os := os) (X := fun w _ => laidMetH Tryd.prog Rows.pageDiskRow.laid w) false (World.laidAll Tryd.prog os Rows.pageDiskRow.laid) #[.int .i64 0, .int .i64 0, .slice none 0 0, .agg (pageV 0 0 (.slice none 0 0))] 8 (World.laidAll_os _ _ _)
      (World.shaped_of_ZipB (by kernel_rfl) (by kernel_rfl)) (by kernel_rfl) (by kernel_rfl) (by kernel_rfl)
      (by rw [MakeChecks.laidMetH_plain _ _ _ (by kernel_rfl)]; exact laidMet_laidAll _ (by kernel_rfl) (by kernel_rfl))) ?_
  intro W base args ds gs before hval0 hW hcnd _ _ _
  have hval : ∀ (j : Nat) t v, Tryd.f5.params[j]? = some t → args[j]? = some v → Value.okWide Tryd.prog W .any base t v := hval0
  have hW' := hW
  obtain ⟨p, q, hA0, hV, rfl, hfz, hnd⟩ := hW
  have hA : DataW.TrodAll enc Tryd.prog W 0 (fun _ => true) true Tryd.f5.params.toList args.toList ds p := hA0
  rw [Tryd.params5] at hA hval
  obtain ⟨v0, vs0, d0, ds0, p0, q0, hargs, rfl, rfl, h0, r0⟩ := trodAll_cons hA
  obtain ⟨v1, vs1, d1, ds1, p1, q1, rfl, rfl, rfl, h1, r1⟩ := trodAll_cons r0
  obtain ⟨v2, vs2, d2, ds2, p2, q2, rfl, rfl, rfl, h2, r2⟩ := trodAll_cons r1
  obtain ⟨v3, vs3, d3, ds3, p3, q3, rfl, rfl, rfl, h3, r3⟩ := trodAll_cons r2
  obtain ⟨rfl, rfl, rfl⟩ := trodAll_nil r3
  obtain rfl : args = #[v0, v1, v2, v3] := by cases args; simp_all
  obtain ⟨rfl, rfl⟩ := trodVars_none hV
  obtain ⟨a0, rfl, rfl, rfl, w0⟩ := open_int Tryd.underlying3 (hval 0 3 v0 rfl rfl) h0
  have b0 := open_i64 w0
  obtain ⟨a1, rfl, rfl, rfl, w1⟩ := open_int Tryd.underlying3 (hval 1 3 v1 rfl rfl) h1
  have b1 := open_i64 w1
  have k2 := h2
  have lt2 : ∀ x ∈ p2, x.block < W.heap.size := by obtain ⟨m, hm⟩ := k2; exact DataW.trod_lt m _ _ _ hm
  obtain ⟨l2, b2⟩ := open_introw (hval 2 44 v2 rfl rfl) h2
  have k3 := h3
  have lt3 : ∀ x ∈ p3, x.block < W.heap.size := by obtain ⟨m, hm⟩ := k3; exact DataW.trod_lt m _ _ _ hm
  obtain ⟨kd3, nm3, vb3, bd3, rfl, b3, bk3, bn3⟩ := open_page (hval 3 28 v3 rfl rfl) h3
  clear hA0 hval0
  refine (walk W a0 a1 v2 l2 kd3 nm3 vb3 bd3 b0 b1 b2 b3 bk3 bn3).mono fun e W' ⟨he, bel⟩ => ?_
  subst he
  exact ⟨_, rfl, _, _, _, [], _, [], hW', trodAll_mk1 (shut_bool Tryd.underlying4 _), (trodAll_cons_mk (shut_int Tryd.underlying3 w0) (trodAll_cons_mk (shut_int Tryd.underlying3 w1) (trodAll_cons_mk (Below.trod laidOuts (by kernel_rfl) (of_decide_eq_true (by kernel_rfl)) k2 bel lt2) (trodAll_cons_mk (Below.trod laidOuts (by kernel_rfl) (of_decide_eq_true (by kernel_rfl)) k3 bel lt3) trodAll_mk0)))), rfl, bel.frame _, fun h => by cases h⟩

theorem over : Rows.pageDiskRow.holds Tryd.pinned (OpenSpec.ofChange Rows.pageDiskSpec) :=
  OpenClaim.holds_of_wide 5 Tryd.f5 rfl rfl rfl rfl rfl rfl rfl ⟨rfl, rfl, rfl, rfl, rfl⟩ rfl rfl rfl rfl rfl (by kernel_rfl) Tryd.func5 (by kernel_rfl)
    (of_decide_eq_true (by kernel_rfl)) (by unfold Func.isWrapper; first | (rw [if_pos (by decide +kernel)]; kernel_rfl) | (rw [if_neg (by decide +kernel)]; exact ⟨rfl, rfl⟩))
    (fun os started H enc _ => lifted os started H enc)

theorem proved : Rows.PageDiskCardSaid :=
  Claim7.holds_tied_plain_at .later [] [.data, .pinned] true Rows.pageDiskCard.stood.harness false over (fun _ h => by cases h) (by kernel_rfl) (fun _ h => by cases h) pageDisk_row_tie rfl ⟨rfl, rfl⟩ (by kernel_rfl) rfl
    (fun f fn hf hfn => by
      obtain rfl : f = 5 := Option.some.inj ((show Tryd.prog.funcNamed "tallyman/tallymanlaw05.PageDisk" = some 5 by kernel_rfl).symm.trans hf) |>.symm
      obtain rfl : fn = Tryd.f5 := (Option.some.inj (Tryd.func5.symm.trans hfn)).symm
      exact ⟨by kernel_rfl, fun j t ht => by
        rw [Tryd.params5] at ht
        have hm : t ∈ [3, 3, 44, 28] := by simpa using Array.mem_of_getElem? ht
        have hall : ([3, 3, 44, 28].all fun u => !Tryd.prog.wantsStandIn u) = true := by kernel_rfl
        exact (show Tryd.prog.wantsStandIn t = false by simpa using List.all_eq_true.1 hall t hm)⟩)
    (by kernel_rfl)
#print axioms proved
end Go.Proofs.YtagchbpofoidmaaDoor.pageDisk
