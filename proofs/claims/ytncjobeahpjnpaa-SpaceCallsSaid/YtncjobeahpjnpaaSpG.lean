/-
  slices.Collect and AppendSeq over whatever goes over ints; package space's Free and Count by their contracts. Conditions: at most 2^46 bools.
-/
import Derived.Test.YtncjobeahpjnpaaSpF
namespace Go.Proofs.Ytncjobeahpjnpaa
open Go.RowKit Go.Shelf Go.Maps
set_option maxRecDepth 100000
attribute [local go_sem] Oper.semAt_some

/-- Ints as cells. -/
def natC (l : List Nat) : List Value := l.map fun n : Nat => Value.int .i64 (n : Int)
theorem natC_len (l : List Nat) : (natC l).length = l.length := by simp [natC]
theorem natC_app (l m : List Nat) : natC (l ++ m) = natC l ++ natC m := by simp [natC]
theorem iinfo : (Try.prog.info? 3).map (fun i => (i.zero, i.size, i.bytes)) = some (some (.int .i64 0), 1, 8) := by kernel_rfl
/-- What a call that makes a list of ints of its own leaves. -/
def MadeN (w : World) (l : List Nat) (e : Ending) (w' : World) : Prop := ∃ v, e = .returned v ∧ OwnV w' w.heap.size 3 v (natC l) ∧ Below w.heap.size w w'

set_option maxRecDepth 100000 in
set_option maxHeartbeats 4000000 in
/-- AppendSeq onto nothing, over the iterator of a space. -/
theorem apseq_in (w : World) (Bs Bu : Nat) (w00 : World) (v : Value) (l : List Bool) (u : Bool) (hv : Boos w00 v l) (hl : l.length ≤ 4096) (hb : Below w00.heap.size w00 w) (hs : Bs < w.heap.size) (hu : Bu < w.heap.size)
    (hBs : w.cell? ⟨Bs, 1, none⟩ = some v) (hBu : w.cell? ⟨Bu, 0, none⟩ = some (.bool u)) :
    Calls Try.prog 52 #[.slice none 0 0, .func (.func 50) #[] #[.pointer (some ⟨Bs, 0, none⟩), .pointer (some ⟨Bu, 0, none⟩)]] w (MadeN w (idxN l u l.length)) := by
  obtain ⟨i0, hi, hz0, hz1, hz2⟩ := info_parts iinfo
  have HSQ : Hid (∀ w2, Below w.heap.size w w2 → SeqStopsK Fence.wide 2 Try.prog 50 #[.pointer (some ⟨Bs, 0, none⟩), .pointer (some ⟨Bu, 0, none⟩)] (fun x : Ix l u => #[Value.int .i64 (x.1 : Int)]) (KpS w00.heap.size Bu) (fun ys => ys = ixF l u l.length) (fun pre => pre <+: ixF l u l.length) (ixF l u l.length).length w2) :=
    fun w2 h2 => those_stops Fence.wide 2 trivial rfl (by omega) Bs Bu w00 v l u hv w2 (hb.trans (h2.mono hb.size)) (Nat.lt_of_lt_of_le hs h2.size) (Nat.lt_of_lt_of_le hu h2.size) ((h2.cell (p := ⟨Bs, 1, none⟩) hs).trans hBs) ((h2.cell (p := ⟨Bu, 0, none⟩) hu).trans hBu)
  have HBU := Lib.hid hu
  have HB00 := Lib.hid hb.size
  have HLL : Hid ((ixF l u l.length).length ≤ 4096) := by
    have e := congrArg List.length (ixF_val l u l.length)
    rw [List.length_map] at e
    have : (idxN l u l.length).length ≤ (List.range l.length).length := List.length_filter_le _ _
    rw [List.length_range] at this
    show _ ≤ _
    omega
  clear hv hb hs hu hBs hBu
  refine (callsIn_wide (n := 3)).1 ?_
  refine callsIn_of_wp_marks Try.func52 rfl trivial ?_ rfl
  simp only [Try.ntmps52, List.size_toArray, List.length_cons, List.length_nil, Nat.reduceAdd, Nat.reduceSub, Array.replicate_succ, Array.replicate_zero, List.push_toArray, List.append_toArray, List.nil_append, List.cons_append]
  gi_wp2
  have bO := Boxed.new w 34 (.slice none 0 0)
  have hB0 : Below w.heap.size w (w.alloc (.cells #[.slice none 0 0] 34)) := below_new w _
  have hsz : (w.alloc (.cells #[.slice none 0 0] 34)).heap.size = w.heap.size + 1 := by simp
  refine wpIn_rangeFunc_ownG rfl (by omega) (gf := 50) (lb := #[.pointer (some ⟨Bs, 0, none⟩), .pointer (some ⟨Bu, 0, none⟩)]) rfl trivial (enters_of Try.func50 (by kernel_rfl) rfl)
    (HSQ.out _ hB0) (fun h k => h.trans k) (KpS.obj (by rw [hsz]; have := HB00.out; omega) (by rw [hsz]; have := HBU.out; omega)) (Below.refl _ _) (fun _ => rfl)
    (fun (pre : List (Ix l u)) W => (∃ v, Boxed W w.heap.size 34 v ∧ W.ownsRow w.heap.size 3 1 v pre.length (natC (pre.map (·.1))) ∧ True) ∧ Below w.heap.size w W)
    (fun _ _ _ => False)
    (OwnFrom.and (Go.Own.from (holdsRow_own w.heap.size w.heap.size 34 3 1 (fun pre : List (Ix l u) => pre.length) (fun pre : List (Ix l u) => natC (pre.map (·.1))) (fun _ _ => True)) _) (ownFrom_below (Nat.le_refl _) (by simp)))
    (fun _ _ _ _ _ hs _ _ => hs)
    ⟨⟨_, bO, World.ownsRow_nil _ _ _ _, trivial⟩, hB0⟩
    (fun x => { tmps := #[.slice none 0 0, .func (.func 50) #[] #[.pointer (some ⟨Bs, 0, none⟩), .pointer (some ⟨Bu, 0, none⟩)], .pointer (some ⟨w.heap.size, 0, none⟩), undef, .slice none 0 0, .int .i64 (x.1 : Int), .func (.func 50) #[] #[.pointer (some ⟨Bs, 0, none⟩), .pointer (some ⟨Bu, 0, none⟩)], .int .i64 (x.1 : Int), undef, undef, undef, undef, undef], defers := [] }) ?assign ?body ?done ?stop
  case assign =>
    intro l x W K hK
    gi_wp2
    exact hK
  case body =>
    rintro lp pre x W ⟨⟨v, hv, hrow, _⟩, hB⟩ hlt
    have hc := hv.cell
    gi_wp2_with (gi_at_builtin; refine wpListIn_append_own _ rfl _ _ 34 rfl w.heap.size 3 i0 (.int .i64 0) 1 8 Try.underlying34 hi hz0 hz1 hz2 rfl (by decide) _ _ _ rfl (hrow.alloc _) ⟨W.heap.size, 0, none⟩ 1 1 [.int .i64 (x.1 : Int)] rfl rfl (cell_one_new _ _ _) (by simp [Value.oneCell']) (by have := HLL.out; unfold maxLen; omega) (by have := HLL.out; omega) (by have := hB.size; simp; omega) ?_; intro v' w1 hown' hgrow _; obtain ⟨g', cap', rfl⟩ := ownsRow_succ hown'; obtain ⟨hv1, hv2, hr2, hk2, hb2⟩ := hv.appended (by decide) hrow hB.size (Nat.le_refl _) hown' hgrow; have hc1 := hv1.cell; have hf1 := hv1.frozen)
    refine ⟨hk2.from _, ⟨hb2.mono HB00.out, hb2.block Bu HBU.out⟩, ⟨_, hv2, ?_, trivial⟩, hB.trans hb2⟩
    rw [List.map_append, natC_app, List.length_append]
    exact hr2
  case done =>
    rintro D ys W hD rfl ⟨⟨v, hv, hrow, _⟩, hB⟩ hK
    have hc := hv.cell
    gi_wp2
    refine ⟨by simp, .inl ⟨_, _, rfl, run_takeDeferred hK, ?_⟩⟩
    have hr := ownsRow_putObj hrow (.deferred none) hK rfl
    refine ⟨_, results_tmp rfl _ _ _, v, rfl, ?_, hB.trans (belowK_b (w := w) (Nat.le_refl _) W D _ _ (by simp at hD; omega) hK rfl rfl)⟩
    rw [← ixF_val]
    unfold OwnV
    rw [natC_len, List.length_map]
    exact hr
  case stop =>
    rintro D c pre W _ _ h _
    exact h.elim
theorem collect_any (w : World) (Bs Bu : Nat) (w00 : World) (v : Value) (l : List Bool) (u : Bool) (hv : Boos w00 v l) (hl : l.length ≤ 4096) (hb : Below w00.heap.size w00 w) (hs : Bs < w.heap.size) (hu : Bu < w.heap.size)
    (hBs : w.cell? ⟨Bs, 1, none⟩ = some v) (hBu : w.cell? ⟨Bu, 0, none⟩ = some (.bool u)) :
    Calls Try.prog 38 #[.func (.func 50) #[] #[.pointer (some ⟨Bs, 0, none⟩), .pointer (some ⟨Bu, 0, none⟩)]] w (MadeN w (idxN l u l.length)) := by
  have HA := Lib.hid (apseq_in w Bs Bu w00 v l u hv hl hb hs hu hBs hBu)
  clear hv hb hs hu hBs hBu
  go_enter Try.func38, Try.ntmps38
  go_wp2_with fail
  refine HA.out.mono ?_
  rintro e w1 ⟨x, rfl, hx, hb⟩
  have HX := Lib.hid hx
  clear hx
  go_wp2_with fail
  go_ret
  exact ⟨_, rfl, HX.out, hb⟩
set_option maxHeartbeats 1000000 in
theorem spFree_any (w : World) (p : Int) (v : Value) (l : List Bool) (hv : Boos w v l) (hlen : l.length ≤ 70368744177664) :
    Calls Try.prog 16 #[.agg #[.int .i64 p, v]] w (MadeN w (spFreeC p l)) := by
  obtain ⟨w0, hw0⟩ : ∃ w0, w.alloc (.cells #[.int .i64 p, v] 24) = w0 := ⟨_, rfl⟩
  have hb0 : Below w.heap.size w w0 := hw0 ▸ below_new w _
  have hA : SpBox w0 w.heap.size p v := hw0 ▸ SBox.new w 24 [.int .i64 p, v]
  have HCK := Lib.hid (spcheck_any w0 p v l (hv.below hb0) hlen)
  have HV := Lib.hid hv
  obtain ⟨A, m, c, rfl, N, hnc, hcm⟩ := hv.form
  have HW0 := Lib.hid hw0
  have HB0 := Lib.hid hb0
  have HA := Lib.hid hA
  clear hv hlen hw0 hb0 hA
  unfold spFreeC
  by_cases hok : spOk p l
  · rw [if_pos hok] at HCK ⊢
    have HOK := Lib.hid hok
    clear hok
    go_enter Try.func16, Try.ntmps16
    go_wp2_with fail
    rw [HW0.out]
    refine HCK.out.mono ?_
    rintro e w1 ⟨rfl, hb1⟩
    have HA1 : Hid (SpBox w1 w.heap.size p (.slice A m c)) := HA.out.below hb1
    have HB1 : Hid (Below w.heap.size w w1) := HB0.out.trans (hb1.mono HB0.out.size)
    have c0 := HA1.out.c0
    have c1 := HA1.out.c1
    clear hb1
    go_wp2_with fail
    refine (those_any w1 p (.slice A m c) false).mono ?_
    rintro e w2 ⟨rfl, hw2⟩
    have hz2 : w2.heap.size = w1.heap.size + 2 := by rw [hw2]; simp
    have hbs : SpBox w2 w1.heap.size p (.slice A m c) := by rw [hw2]; exact (SBox.new w1 24 [.int .i64 p, .slice A m c]).alloc _
    have hbu : SBox w2 (w1.heap.size + 1) 4 [.bool false] := by
      have := SBox.new (w1.alloc (.cells #[.int .i64 p, .slice A m c] 24)) 4 [.bool false]
      rw [World.size_alloc] at this
      rw [hw2]
      exact this
    have hb2 : Below w1.heap.size w1 w2 := by rw [hw2]; exact (below_new w1 _).trans ((below_new _ _).mono (by simp))
    have HB2 : Hid (Below w.heap.size w w2) := HB1.out.trans (hb2.mono HB1.out.size)
    have HCO := Lib.hid (collect_any w2 w1.heap.size (w1.heap.size + 1) w (.slice A m c) l false HV.out (spOk_len HOK.out).2.2 HB2.out (by omega) (by omega) hbs.c1 (hbu.cell 0 _ rfl))
    clear hw2 hz2 hbs hbu hb2 c0 c1
    go_wp2_with fail
    refine HCO.out.mono ?_
    rintro e w3 ⟨x, rfl, hx, hb3⟩
    have HX : Hid (OwnV w3 w.heap.size 3 x (natC (idxN l false l.length))) := hx.lower HB2.out.size
    clear hx
    go_wp2_with fail
    go_ret
    exact ⟨_, rfl, HX.out, HB2.out.trans (hb3.mono HB2.out.size)⟩
  · rw [if_neg hok] at HCK ⊢
    clear hok
    go_enter Try.func16, Try.ntmps16
    go_wp2_with fail
    rw [HW0.out]
    refine HCK.out.mono ?_
    rintro e w1 ⟨rfl, hb1⟩
    have HB1 : Hid (Below w.heap.size w w1) := HB0.out.trans (hb1.mono HB0.out.size)
    clear hb1
    go_wp2_with fail
    go_ret
    exact ⟨_, rfl, OwnV.nil _ _ _, HB1.out⟩
theorem spCount_any (w : World) (p : Int) (v : Value) (l : List Bool) (hv : Boos w v l) (hlen : l.length ≤ 70368744177664) :
    Calls Try.prog 13 #[.agg #[.int .i64 p, v]] w fun e w' => e = .returned (.int .i64 ((spFreeC p l).length : Int)) ∧ Below w.heap.size w w' := by
  obtain ⟨w0, hw0⟩ : ∃ w0, w.alloc (.cells #[.int .i64 p, v] 24) = w0 := ⟨_, rfl⟩
  have hb0 : Below w.heap.size w w0 := hw0 ▸ below_new w _
  have HF := Lib.hid (spFree_any w0 p v l (hv.below hb0) hlen)
  obtain ⟨A, m, c, rfl, N, hnc, hcm⟩ := hv.form
  have HW0 := Lib.hid hw0
  have HB0 := Lib.hid hb0
  generalize hq : spFreeC p l = q at *
  clear hv hlen hw0 hb0 hq
  go_enter Try.func13, Try.ntmps13
  go_wp2_with fail
  rw [HW0.out]
  refine HF.out.mono ?_
  rintro e w1 ⟨x, rfl, hx, hb1⟩
  obtain ⟨A1, m1, c1, rfl, N1, _, _⟩ := hx.rowz.form
  have HN : Hid (m1 = q.length) := by rw [Hid, N1.out, natC_len]
  have HB1 : Hid (Below w.heap.size w w1) := HB0.out.trans (hb1.mono HB0.out.size)
  clear hb1 hx N1
  go_wp2_with fail
  go_ret
  exact ⟨by rw [HN.out]; rfl, HB1.out⟩
end Go.Proofs.Ytncjobeahpjnpaa
