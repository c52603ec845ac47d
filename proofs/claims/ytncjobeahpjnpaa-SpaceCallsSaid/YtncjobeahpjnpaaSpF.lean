/-
  Package space's Take by its contract. Conditions: at most 2^46 bools.
-/
import Derived.Test.YtncjobeahpjnpaaSpE
namespace Go.Proofs.Ytncjobeahpjnpaa
open Go.RowKit Go.Shelf Go.Maps
set_option maxRecDepth 100000
attribute [local go_sem] Oper.semAt_some

/-- What Take leaves. -/
def TkOut (w : World) (r : Nat × Int × List Bool × Nat) (e : Ending) (w' : World) : Prop := ∃ x, e = .returned (.tuple #[.int .i64 (r.1 : Int), .agg #[.int .i64 r.2.1, x], .int .i64 (r.2.2.2 : Int)]) ∧ OwnB w' w.heap.size x r.2.2.1 ∧ Below w.heap.size w w'
theorem intInfo1 : (Try.prog.info? 3).map (·.size) = some 1 := by kernel_rfl
theorem errInfo1 : (Try.prog.info? 25).map (·.size) = some 1 := by kernel_rfl
/-- A space's box, and three for the answers. -/
def TkBoxes (w W : World) (p : Int) (v : Value) (n : Int) (q : Int) (x : Value) (e : Int) : Prop :=
  SpBox W w.heap.size p v ∧ SBox W (w.heap.size + 1) 3 [.int .i64 n] ∧ SpBox W (w.heap.size + 2) q x ∧ SBox W (w.heap.size + 3) 25 [.int .i64 e]
theorem TkBoxes.same {w W W' : World} {p n q e : Int} {v x : Value} (h : TkBoxes w W p v n q x e) (hs : ∀ k, w.heap.size ≤ k → k < w.heap.size + 4 → W'.heap[k]? = W.heap[k]?) : TkBoxes w W' p v n q x e :=
  ⟨h.1.same (hs _ (by omega) (by omega)), h.2.1.same (hs _ (by omega) (by omega)), h.2.2.1.same (hs _ (by omega) (by omega)), h.2.2.2.same (hs _ (by omega) (by omega))⟩
theorem TkBoxes.size {w W : World} {p n q e : Int} {v x : Value} (h : TkBoxes w W p v n q x e) : w.heap.size + 4 ≤ W.heap.size := h.2.2.2.lt
theorem TkBoxes.below {w W W' : World} {p n q e : Int} {v x : Value} (h : TkBoxes w W p v n q x e) (hb : Below W.heap.size W W') : TkBoxes w W' p v n q x e :=
  h.same fun k _ hk => hb.block k (by have := h.size; omega)
theorem tk_boxes (w : World) (p : Int) (v : Value) : ∃ w0, (((w.alloc (.cells #[.int .i64 p, v] 24)).alloc (.cells #[.int .i64 0] 3)).alloc (.cells #[.int .i64 0, .slice none 0 0] 24)).alloc (.cells #[.int .i64 0] 25) = w0 ∧ Below w.heap.size w w0 ∧ w0.heap.size = w.heap.size + 4 ∧ TkBoxes w w0 p v 0 0 (.slice none 0 0) 0 := by
  have e1 := World.size_alloc w (.cells #[.int .i64 p, v] 24)
  generalize hw1 : w.alloc (.cells #[.int .i64 p, v] 24) = w1 at *
  have e2 := World.size_alloc w1 (.cells #[.int .i64 0] 3)
  generalize hw2 : w1.alloc (.cells #[.int .i64 0] 3) = w2 at *
  have e3 := World.size_alloc w2 (.cells #[.int .i64 0, .slice none 0 0] 24)
  generalize hw3 : w2.alloc (.cells #[.int .i64 0, .slice none 0 0] 24) = w3 at *
  have e4 := World.size_alloc w3 (.cells #[.int .i64 0] 25)
  refine ⟨_, rfl, ?_, by omega, ?_, ?_, ?_, ?_⟩
  · exact ((hw1 ▸ below_new w _ : Below w.heap.size w w1).trans ((hw2 ▸ below_new w1 _ : Below w1.heap.size w1 w2).mono (by omega))).trans (((hw3 ▸ below_new w2 _ : Below w2.heap.size w2 w3).mono (by omega)).trans ((below_new w3 _).mono (by omega)))
  · exact ((((hw1 ▸ SBox.new w 24 [.int .i64 p, v] : SpBox w1 w.heap.size p v)).below (hw2 ▸ below_new w1 _)).below (hw3 ▸ below_new w2 _)).alloc _
  · have := (hw2 ▸ SBox.new w1 3 [.int .i64 0] : SBox w2 w1.heap.size 3 [.int .i64 0])
    rw [e1] at this
    exact (this.below (hw3 ▸ below_new w2 _)).alloc _
  · have := (hw3 ▸ SBox.new w2 24 [.int .i64 0, .slice none 0 0] : SpBox w3 w2.heap.size 0 (.slice none 0 0))
    rw [e2, e1] at this
    exact SBox.alloc this _
  · have := SBox.new w3 25 [.int .i64 0]
    rw [e3, e2, e1] at this
    exact this

section
variable {w W W' : World} {p n q e : Int} {v x : Value}
theorem TkBoxes.putN (h : TkBoxes w W p v n q x e) (n' : Int) : TkBoxes w (W.setCell ⟨w.heap.size + 1, 0, none⟩ (.int .i64 n')) p v n' q x e :=
  ⟨h.1.grown (grown_set _ _ _ _) (by omega), SBox.put h.2.1 0 _, h.2.2.1.grown (grown_set _ _ _ _) (by omega), h.2.2.2.grown (grown_set _ _ _ _) (by omega)⟩
theorem TkBoxes.putE (h : TkBoxes w W p v n q x e) (e' : Int) : TkBoxes w (W.setCell ⟨w.heap.size + 3, 0, none⟩ (.int .i64 e')) p v n q x e' :=
  ⟨h.1.grown (grown_set _ _ _ _) (by omega), h.2.1.grown (grown_set _ _ _ _) (by omega), h.2.2.1.grown (grown_set _ _ _ _) (by omega), SBox.put h.2.2.2 0 _⟩
theorem TkBoxes.putS (h : TkBoxes w W p v n q x e) {q' : Int} {x' : Value} (hs : SpBox W' (w.heap.size + 2) q' x') (hg : W.grownBy W' (some (w.heap.size + 2))) : TkBoxes w W' p v n q' x' e :=
  ⟨h.1.grown hg (by omega), h.2.1.grown hg (by omega), hs, h.2.2.2.grown hg (by omega)⟩
theorem res_take {tmps : Array Value} (h : TkBoxes w W p v n q x e) (h2 : tmps.getD 2 undef = .pointer (some ⟨w.heap.size + 1, 0, none⟩)) (h3 : tmps.getD 3 undef = .pointer (some ⟨w.heap.size + 2, 0, none⟩)) (h4 : tmps.getD 4 undef = .pointer (some ⟨w.heap.size + 3, 0, none⟩)) :
    (results Try.f17 tmps).run Try.prog W = .ok (.tuple #[.int .i64 n, .agg #[.int .i64 q, x], .int .i64 e]) W := by
  have s0 := h.2.2.1.c0
  have s1 := h.2.2.1.c1
  have c1 := h.2.1.cell 0 _ rfl
  have c3 := h.2.2.2.cell 0 _ rfl
  have g2 : tmps[2]?.getD undef = .pointer (some ⟨w.heap.size + 1, 0, none⟩) := by simpa using h2
  have g3 : tmps[3]?.getD undef = .pointer (some ⟨w.heap.size + 2, 0, none⟩) := by simpa using h3
  have g4 : tmps[4]?.getD undef = .pointer (some ⟨w.heap.size + 3, 0, none⟩) := by simpa using h4
  simp [results, Try.f17, go_sem, g2, g3, g4, asAddr, s0, s1, c1, c3]
/-- A row of the call's own lies as it lay where no cells are turned. -/
theorem ownsRow_turn {B : Nat} {e : TypeId} {k : Nat} {xs : List Value} {v : Value} {A C : World} {row : Option Nat} (h : A.ownsRow B e 1 v k xs) (hg : A.grownBy C row) (hr : ∀ r, row = some r → ∃ o : Obj, A.heap[r]? = some o ∧ o.isCells = false) : C.ownsRow B e 1 v k xs := by
  refine World.ownsRow.kept h hg ?_
  rcases h.2 with ⟨rfl, _⟩ | ⟨g, cap, cur, rfl, _, hgb, _⟩
  · exact .inl rfl
  · refine .inr fun e' => ?_
    obtain ⟨o, ho, hc⟩ := hr g (by simpa [Value.ownBlock] using e'.symm)
    rw [hgb] at ho
    cases ho
    cases hc
theorem TkBoxes.turn {row : Option Nat} {B : Nat} (h : TkBoxes w W p v n q x e) (hB : w.heap.size + 4 ≤ B) (hg : W.grownBy W' row) (hr : ∀ r, row = some r → B ≤ r) : TkBoxes w W' p v n q x e :=
  h.same fun k _ hk => hg.block k (by have := h.size; omega) (by intro e; have := hr k e.symm; omega)
theorem below_turn {row : Option Nat} {B : Nat} (h : Below w.heap.size w W) (hB : w.heap.size ≤ B) (hg : W.grownBy W' row) (hr : ∀ r, row = some r → B ≤ r) : Below w.heap.size w W' :=
  h.grown hg h.size (fun k e => by have := hr k e; omega)
theorem keeps_below {B : Nat} (h : Below W.heap.size W W') : KeepsFrom B W W' := ⟨h.size, fun k _ _ hk _ => (h.block k (Array.getElem?_eq_some_iff.1 hk).1).trans hk⟩
end
theorem ixF_head {l : List Bool} {u : Bool} {k : Nat} {x : Ix l u} (h : [x] <+: ixF l u k) : ∃ r, idxN l u k = x.1 :: r := by
  obtain ⟨r, hr⟩ := h
  rw [← ixF_val, ← hr]
  exact ⟨_, rfl⟩
theorem spTake_hit {p : Int} {l : List Bool} (hok : spOk p l) {x : Nat} {r : List Nat} (h : spFree l = x :: r) : spTake p l = (x, p, l.set x true, 0) := by
  unfold spTake
  rw [if_neg (fun h => h hok), h]
theorem spTake_none {p : Int} {l : List Bool} (hok : spOk p l) (h : spFree l = []) : spTake p l = (0, 0, [], 9) := by
  unfold spTake
  rw [if_neg (fun h => h hok), h]

set_option maxRecDepth 100000 in
set_option maxHeartbeats 4000000 in
theorem spTake_ok (w : World) (p : Int) (v : Value) (l : List Bool) (hv : Boos w v l) (hok : spOk p l) :
    Calls Try.prog 17 #[.agg #[.int .i64 p, v]] w (TkOut w (spTake p l)) := by
  obtain ⟨w0, hw0, hb0, hz, hT⟩ := tk_boxes w p v
  have hl := spOk_len hok
  have HCK := Lib.hid (spcheck_any w0 p v l (hv.below hb0) (by omega))
  rw [if_pos hok] at HCK
  obtain ⟨A, m, c, rfl, N, hnc, hcm⟩ := hv.form
  have HV := Lib.hid hv
  have HB0 := Lib.hid hb0
  have HZ := Lib.hid hz
  have HW0 := Lib.hid hw0
  have HT := Lib.hid hT
  clear hv hb0 hz hw0 hT
  refine (callsIn_wide (n := 3)).1 ?_
  refine callsIn_of_wp_marks Try.func17 rfl trivial ?_ rfl
  simp only [Try.ntmps17, List.size_toArray, List.length_cons, List.length_nil, Nat.reduceAdd, Nat.reduceSub, Array.replicate_succ, Array.replicate_zero, List.push_toArray, List.append_toArray, List.nil_append, List.cons_append]
  gi_wp2
  refine ⟨trivial, ?_⟩
  rw [HW0.out]
  refine (callsIn_wide.2 HCK.out).mono ?_
  rintro e w1 ⟨rfl, hb1⟩
  have HT1 := Lib.hid (HT.out.below hb1)
  have HB1 : Hid (Below w.heap.size w w1) := HB0.out.trans (hb1.mono HB0.out.size)
  have c0 := HT1.out.1.c0
  have c1 := HT1.out.1.c1
  clear hb1
  gi_wp2
  refine ⟨trivial, ?_⟩
  refine (callsIn_wide.2 (those_any w1 p (.slice A m c) false)).mono ?_
  rintro e w2 ⟨rfl, hw2⟩
  have hz2 : w2.heap.size = w1.heap.size + 2 := by rw [hw2]; simp
  have hbs : SpBox w2 w1.heap.size p (.slice A m c) := by rw [hw2]; exact (SBox.new w1 24 [.int .i64 p, .slice A m c]).alloc _
  have hbu : SBox w2 (w1.heap.size + 1) 4 [.bool false] := by
    have := SBox.new (w1.alloc (.cells #[.int .i64 p, .slice A m c] 24)) 4 [.bool false]
    rw [World.size_alloc] at this
    rw [hw2]
    exact this
  have hb2 : Below w1.heap.size w1 w2 := by rw [hw2]; exact (below_new w1 _).trans ((below_new _ _).mono (by simp))
  have HB2 : Hid (Below w.heap.size w w2) := HB1.out.trans (hb2.mono HB1.out.size)
  have HT2 : Hid (TkBoxes w w2 p (.slice A m c) 0 0 (.slice none 0 0) 0) := HT1.out.below hb2
  have HZ2 : Hid (w2.heap.size = w1.heap.size + 2 ∧ w.heap.size + 4 ≤ w1.heap.size) := ⟨hz2, HT1.out.size⟩
  have HSQ := Lib.hid (those_stops Fence.wide 2 trivial rfl (by omega) w1.heap.size (w1.heap.size + 1) w (.slice A m c) l false HV.out w2 HB2.out (by omega) (by omega) hbs.c1 (hbu.cell 0 _ rfl))
  clear hw2 hz2 hbs hbu hb2 c0 c1
  gi_wp2
  refine wpIn_rangeFunc_ownG rfl (by omega) (gf := 50) (lb := #[.pointer (some ⟨w1.heap.size, 0, none⟩), .pointer (some ⟨w1.heap.size + 1, 0, none⟩)]) rfl trivial (enters_of Try.func50 (by kernel_rfl) rfl)
    HSQ.out (fun h k => h.trans k) (KpS.obj (w := w2) HB2.out.size (by have := HZ2.out; omega)) (Below.refl _ _) (fun _ => rfl)
    (fun pre W => pre = [] ∧ TkBoxes w W p (.slice A m c) 0 0 (.slice none 0 0) 0 ∧ Below w.heap.size w W)
    (fun code pre W => code = .ret ∧ ∃ (x : Ix l false) (y : Value), pre = [x] ∧ TkBoxes w W p (.slice A m c) x.1 p y 0 ∧ OwnB W w.heap.size y (l.set x.1 true) ∧ Below w.heap.size w W)
    (fun s X Y row hs hg hr => ⟨hs.1, hs.2.1.turn (by have := HZ2.out; omega) hg (fun r e => (hr r e).1), below_turn hs.2.2 HB2.out.size hg (fun r e => (hr r e).1)⟩)
    (fun code s X Y row hs hg hr => by
      obtain ⟨h1, x, y, h2, h3, h4, h5⟩ := hs
      exact ⟨h1, x, y, h2, h3.turn (by have := HZ2.out; omega) hg (fun r e => (hr r e).1), ownsRow_turn h4 hg (fun r e => (hr r e).2), below_turn h5 HB2.out.size hg (fun r e => (hr r e).1)⟩)
    ⟨rfl, HT2.out, HB2.out⟩
    (fun x => { tmps := #[.agg #[.int .i64 p, .slice A m c], .pointer (some ⟨w.heap.size, 0, none⟩), .pointer (some ⟨w.heap.size + 1, 0, none⟩), .pointer (some ⟨w.heap.size + 1 + 1, 0, none⟩), .pointer (some ⟨w.heap.size + 1 + 1 + 1, 0, none⟩), .int .i64 0, .int .i64 (x.1 : Int), .agg #[.int .i64 p, .slice A m c], .int .i64 0, .int .i64 0, .bool false, undef, undef, .agg #[.int .i64 p, .slice A m c],
      .func (.func 50) #[] #[.pointer (some ⟨w1.heap.size, 0, none⟩), .pointer (some ⟨w1.heap.size + 1, 0, none⟩)], .int .i64 (x.1 : Int), undef, undef, undef, undef, undef], defers := [] }) ?assign ?body ?done ?stop
  case assign =>
    intro lp x W K hK
    gi_wp2
    exact hK
  case body =>
    rintro lp pre x W ⟨rfl, hT, hB⟩ hlen
    have HTW := Lib.hid hT
    have HBW := Lib.hid hB
    have hx : x.1 < l.length := (List.getElem?_eq_some_iff.1 x.2).1
    have HWI := Lib.hid (spwith_any W p (.slice A m c) l x.1 true (HV.out.below hB) (by omega) hx)
    have c0 := hT.1.c0
    have c1 := hT.1.c1
    clear hT hB hx hlen
    gi_wp2
    refine ⟨trivial, ?_⟩
    refine (CallsIn.inRound lp (callsIn_wide.2 HWI.out)).mono ?_
    rintro e W1 ⟨y, rfl, hy, hb1⟩
    obtain ⟨Ay, ny, cy, rfl, _, _, _⟩ := hy.boos.form
    have HT1' : Hid (TkBoxes w W1 p (.slice A m c) 0 0 (.slice none 0 0) 0) := HTW.out.below hb1
    have HBW1 : Hid (Below w.heap.size w W1) := HBW.out.trans (hb1.mono HBW.out.size)
    have HY := Lib.hid hy
    have HKF : Hid (KeepsFrom w2.heap.size W W1) := keeps_below hb1
    have HNB : Hid (∀ k, k < w.heap.size + 4 → (Value.slice Ay ny cy).ownBlock ≠ some k) := fun k hk e => by have := (World.ownsRow.lt hy _ e).1; have := HTW.out.size; omega
    have HW4 : Hid (w.heap.size + 4 ≤ w2.heap.size) := HT2.out.size
    have HWL : Hid (w.heap.size ≤ W.heap.size) := HBW.out.size
    clear hy hb1 c0 c1
    gi_wp2_with (first
      | (refine wpListIn_put1 3 rfl (.tmp 2) (.tmp 16) rfl 0 (.int .i64 (x.1 : Int)) rfl rfl rfl intInfo1 _ (HT1'.out.2.1.cell 0 _ rfl) (HT1'.out.2.1.frozen 0) ?_; intro W2 hW2
         have hg2 : W1.grownBy W2 (some (w.heap.size + 1)) := by rw [hW2]; exact grown_set _ _ _ _
         have HTa : Hid (TkBoxes w W2 p (.slice A m c) x.1 0 (.slice none 0 0) 0) := by rw [hW2]; exact HT1'.out.putN _
         have HYa : Hid (OwnB W2 W.heap.size (.slice Ay ny cy) (l.set x.1 true)) := World.ownsRow.kept HY.out hg2 (.inr (HNB.out _ (by omega)))
         have HBa : Hid (Below w.heap.size w W2) := HBW1.out.grown hg2 HBW1.out.size (fun k e => by cases e; omega)
         have HKa : Hid (KeepsFrom w2.heap.size W W2) := HKF.out.trans (KeepsFrom.of_grownBy hg2 (fun j e => by cases e; have := HW4.out; omega))
         clear hW2 hg2)
      | (refine wpListIn_storeS HTa.out.2.2.1 spInfo rfl (.tmp 3) (.tmp 19) rfl rfl (ds := [.int .i64 p, .slice Ay ny cy]) rfl rfl (one_sp _ _ _ _) ?_; intro W3 hs3 hg3 hz3
         have HTb : Hid (TkBoxes w W3 p (.slice A m c) x.1 p (.slice Ay ny cy) 0) := HTa.out.putS hs3 hg3
         have HYb : Hid (OwnB W3 W.heap.size (.slice Ay ny cy) (l.set x.1 true)) := World.ownsRow.kept HYa.out hg3 (.inr (HNB.out _ (by omega)))
         have HBb : Hid (Below w.heap.size w W3) := HBa.out.grown hg3 HBa.out.size (fun k e => by cases e; omega)
         have HKb : Hid (KeepsFrom w2.heap.size W W3) := HKa.out.trans (KeepsFrom.of_grownBy hg3 (fun j e => by cases e; have := HW4.out; omega))
         clear hs3 hg3 hz3)
      | (refine wpListIn_put1 25 rfl (.tmp 4) _ rfl 0 (.int .i64 0) rfl rfl rfl errInfo1 _ (HTb.out.2.2.2.cell 0 _ rfl) (HTb.out.2.2.2.frozen 0) ?_; intro W4 hW4
         have hg4 : W3.grownBy W4 (some (w.heap.size + 3)) := by rw [hW4]; exact grown_set _ _ _ _
         have HTc : Hid (TkBoxes w W4 p (.slice A m c) x.1 p (.slice Ay ny cy) 0) := by rw [hW4]; exact HTb.out.putE _
         have HYc : Hid (OwnB W4 W.heap.size (.slice Ay ny cy) (l.set x.1 true)) := World.ownsRow.kept HYb.out hg4 (.inr (HNB.out _ (by omega)))
         have HBc : Hid (Below w.heap.size w W4) := HBb.out.grown hg4 HBb.out.size (fun k e => by cases e; omega)
         have HKc : Hid (KeepsFrom w2.heap.size W W4) := HKb.out.trans (KeepsFrom.of_grownBy hg4 (fun j e => by cases e; have := HW4.out; omega))
         clear hW4 hg4))
    exact ⟨HKc.out, rfl, x, _, rfl, HTc.out, OwnV.lower HYc.out HWL.out, HBc.out⟩
  case done =>
    rintro D ys W hD rfl ⟨hnil, hT, hB⟩ hK
    have hn : spFree l = [] := by
      have := ixF_val l false l.length
      rw [hnil] at this
      exact this.symm
    have HSN := Lib.hid (spTake_none hok hn)
    have HTW := Lib.hid hT
    have HBW := Lib.hid hB
    have HKW := Lib.hid hK
    have HD := Lib.hid hD
    clear hT hB hK hn hnil hD
    gi_wp2_with (first
      | (refine wpListIn_put1 3 rfl (.tmp 2) _ rfl 0 (.int .i64 0) rfl rfl rfl intInfo1 _ (HTW.out.2.1.cell 0 _ rfl) (HTW.out.2.1.frozen 0) ?_; intro W2 hW2
         have hg2 : W.grownBy W2 (some (w.heap.size + 1)) := by rw [hW2]; exact grown_set _ _ _ _
         have HTa : Hid (TkBoxes w W2 p (.slice A m c) 0 0 (.slice none 0 0) 0) := by rw [hW2]; exact HTW.out.putN _
         have HBa : Hid (Below w.heap.size w W2) := HBW.out.grown hg2 HBW.out.size (fun k e => by cases e; omega)
         have HKa : Hid (W2.heap[D]? = some (.deferred (some []))) := (hg2.block D (Array.getElem?_eq_some_iff.1 HKW.out).1 (by have := HD.out; have := HT2.out.size; simp; omega)).trans HKW.out
         clear hW2 hg2)
      | (refine wpListIn_storeS HTa.out.2.2.1 spInfo rfl (.tmp 3) _ rfl rfl (ds := [.int .i64 0, .slice none 0 0]) rfl rfl (nil_one _) ?_; intro W3 hs3 hg3 hz3
         have HTb : Hid (TkBoxes w W3 p (.slice A m c) 0 0 (.slice none 0 0) 0) := HTa.out.putS hs3 hg3
         have HBb : Hid (Below w.heap.size w W3) := HBa.out.grown hg3 HBa.out.size (fun k e => by cases e; omega)
         have HKb : Hid (W3.heap[D]? = some (.deferred (some []))) := (hg3.block D (Array.getElem?_eq_some_iff.1 HKa.out).1 (by have := HD.out; have := HT2.out.size; simp; omega)).trans HKa.out
         clear hs3 hg3 hz3)
      | (refine wpListIn_put1 25 rfl (.tmp 4) _ rfl 0 (.int .i64 9) rfl rfl rfl errInfo1 _ (HTb.out.2.2.2.cell 0 _ rfl) (HTb.out.2.2.2.frozen 0) ?_; intro W4 hW4
         have hg4 : W3.grownBy W4 (some (w.heap.size + 3)) := by rw [hW4]; exact grown_set _ _ _ _
         have HTc : Hid (TkBoxes w W4 p (.slice A m c) 0 0 (.slice none 0 0) 9) := by rw [hW4]; exact HTb.out.putE _
         have HBc : Hid (Below w.heap.size w W4) := HBb.out.grown hg4 HBb.out.size (fun k e => by cases e; omega)
         have HKc : Hid (W4.heap[D]? = some (.deferred (some []))) := (hg4.block D (Array.getElem?_eq_some_iff.1 HKb.out).1 (by have := HD.out; have := HT2.out.size; simp; omega)).trans HKb.out
         clear hW4 hg4))
    refine ⟨by simp, .inl ⟨_, _, rfl, run_takeDeferred HKc.out, ?_⟩⟩
    have hg5 := grownBy_putObj' W4 D (.deferred none)
    exact ⟨_, res_take (HTc.out.turn HT2.out.size hg5 (fun r e => by cases e; exact HD.out)) rfl rfl rfl, by rw [HSN.out]; exact ⟨_, rfl, OwnV.nil _ _ _, below_turn HBc.out HB2.out.size hg5 (fun r e => by cases e; exact HD.out)⟩⟩
  case stop =>
    rintro D code pre W hD hpre ⟨rfl, x, y, rfl, hT, hO, hB⟩ hK
    obtain ⟨r, hr⟩ := ixF_head hpre
    rw [spTake_hit hok hr]
    have HTW := Lib.hid hT
    have HO := Lib.hid hO
    have HBW := Lib.hid hB
    have HD := Lib.hid hD
    clear hT hO hB hr hpre
    gi_wp2
    refine ⟨by simp, .inl ⟨_, _, rfl, run_takeDeferred hK, ?_⟩⟩
    have hg5 := grownBy_putObj' W D (.deferred none)
    exact ⟨_, res_take (HTW.out.turn HT2.out.size hg5 (fun r e => by cases e; exact HD.out)) rfl rfl rfl, _, rfl, ownsRow_turn HO.out hg5 (fun r e => by cases e; exact ⟨_, hK, rfl⟩), below_turn HBW.out HB2.out.size hg5 (fun r e => by cases e; exact HD.out)⟩
set_option maxRecDepth 100000 in
set_option maxHeartbeats 4000000 in
theorem spTake_not (w : World) (p : Int) (v : Value) (l : List Bool) (hv : Boos w v l) (hlen : l.length ≤ 70368744177664) (hok : ¬ spOk p l) :
    Calls Try.prog 17 #[.agg #[.int .i64 p, v]] w (TkOut w (0, 0, [], 2)) := by
  obtain ⟨w0, hw0, hb0, hz, hT⟩ := tk_boxes w p v
  have HCK := Lib.hid (spcheck_any w0 p v l (hv.below hb0) hlen)
  rw [if_neg hok] at HCK
  obtain ⟨A, m, c, rfl, N, hnc, hcm⟩ := hv.form
  have HB0 := Lib.hid hb0
  have HW0 := Lib.hid hw0
  have HT := Lib.hid hT
  clear hv hb0 hz hw0 hT hlen hok
  go_enter Try.func17, Try.ntmps17
  go_wp2_with fail
  rw [HW0.out]
  refine HCK.out.mono ?_
  rintro e w1 ⟨rfl, hb1⟩
  have HTW := Lib.hid (HT.out.below hb1)
  have HBW : Hid (Below w.heap.size w w1) := HB0.out.trans (hb1.mono HB0.out.size)
  clear hb1
  go_wp2_with (first
      | (refine wpList_put1 3 rfl (.tmp 2) _ rfl 0 (.int .i64 0) rfl rfl rfl intInfo1 _ (HTW.out.2.1.cell 0 _ rfl) (HTW.out.2.1.frozen 0) ?_; intro W2 hW2
         have hg2 : w1.grownBy W2 (some (w.heap.size + 1)) := by rw [hW2]; exact grown_set _ _ _ _
         have HTa : Hid (TkBoxes w W2 p (.slice A m c) 0 0 (.slice none 0 0) 0) := by rw [hW2]; exact HTW.out.putN _
         have HBa : Hid (Below w.heap.size w W2) := HBW.out.grown hg2 HBW.out.size (fun k e => by cases e; omega)
         clear hW2 hg2)
      | (refine wpList_storeS HTa.out.2.2.1 spInfo rfl (.tmp 3) _ rfl rfl (ds := [.int .i64 0, .slice none 0 0]) rfl rfl (nil_one _) ?_; intro W3 hs3 hg3 hz3
         have HTb : Hid (TkBoxes w W3 p (.slice A m c) 0 0 (.slice none 0 0) 0) := HTa.out.putS hs3 hg3
         have HBb : Hid (Below w.heap.size w W3) := HBa.out.grown hg3 HBa.out.size (fun k e => by cases e; omega)
         clear hs3 hg3 hz3)
      | (refine wpList_put1 25 rfl (.tmp 4) _ rfl 0 (.int .i64 2) rfl rfl rfl errInfo1 _ (HTb.out.2.2.2.cell 0 _ rfl) (HTb.out.2.2.2.frozen 0) ?_; intro W4 hW4
         have hg4 : W3.grownBy W4 (some (w.heap.size + 3)) := by rw [hW4]; exact grown_set _ _ _ _
         have HTc : Hid (TkBoxes w W4 p (.slice A m c) 0 0 (.slice none 0 0) 2) := by rw [hW4]; exact HTb.out.putE _
         have HBc : Hid (Below w.heap.size w W4) := HBb.out.grown hg4 HBb.out.size (fun k e => by cases e; omega)
         clear hW4 hg4))
  refine bodyPost_ret (res_take HTc.out rfl rfl rfl) rfl ?_
  exact ⟨_, rfl, OwnV.nil _ _ _, HBc.out⟩
theorem spTake_any (w : World) (p : Int) (v : Value) (l : List Bool) (hv : Boos w v l) (hlen : l.length ≤ 70368744177664) :
    Calls Try.prog 17 #[.agg #[.int .i64 p, v]] w (TkOut w (spTake p l)) := by
  by_cases hok : spOk p l
  · exact spTake_ok w p v l hv hok
  · have e : spTake p l = (0, 0, [], 2) := by unfold spTake; rw [if_pos hok]
    rw [e]
    exact spTake_not w p v l hv hlen hok
end Go.Proofs.Ytncjobeahpjnpaa
