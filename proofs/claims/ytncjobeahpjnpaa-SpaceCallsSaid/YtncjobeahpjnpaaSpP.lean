/-
  tallymanref08.Take. Conditions: none.
-/
import Derived.Test.YtncjobeahpjnpaaSpM
namespace Go.Proofs.Ytncjobeahpjnpaa
open Go.ChangeShapes Go.WideShapes Go.ChangeAt Go.RowKit Go.Maps
set_option maxRecDepth 100000
set_option linter.unusedVariables false
set_option linter.unusedSimpArgs false

theorem idx_none {l : List Bool} {k : Nat} (h : ∀ j, j < k → l[j]? = some true) : idxN l false k = [] := by
  unfold idxN
  rw [List.filter_eq_nil_iff]
  intro n hn
  rw [h n (List.mem_range.1 hn)]
  simp
theorem idx_first {l : List Bool} {k : Nat} (h : ∀ j, j < k → l[j]? = some true) (hk : l[k]? = some false) : ∀ d, ∃ r, idxN l false (k + 1 + d) = k :: r
  | 0 => ⟨[], by rw [Nat.add_zero, idxN_succ, idx_none h, hk]; rfl⟩
  | d + 1 => by
    obtain ⟨r, hr⟩ := idx_first h hk d
    refine ⟨r ++ (if l[k + 1 + d]? == some false then [k + 1 + d] else []), ?_⟩
    rw [← Nat.add_assoc, idxN_succ, hr]
    rfl
theorem free_first {l : List Bool} {k : Nat} (h : ∀ j, j < k → l[j]? = some true) (hk : l[k]? = some false) : ∃ r, spFree l = k :: r := by
  have hlt := (List.getElem?_eq_some_iff.1 hk).1
  have := idx_first h hk (l.length - (k + 1))
  rwa [show k + 1 + (l.length - (k + 1)) = l.length by omega] at this
theorem r8res {W : World} {g : Nat} {q n e : Int} {x : Value} {tmps : Array Value} (h : SpBox W g q x) (h2 : tmps.getD 2 undef = .int .i64 n) (h3 : tmps.getD 3 undef = .pointer (some ⟨g, 0, none⟩)) (h4 : tmps.getD 4 undef = .int .i64 e) :
    (results Try.f18 tmps).run Try.prog W = .ok (.tuple #[.int .i64 n, .agg #[.int .i64 q, x], .int .i64 e]) W := by
  have s0 := h.c0
  have s1 := h.c1
  have g2 : tmps[2]?.getD undef = .int .i64 n := by simpa using h2
  have g3 : tmps[3]?.getD undef = .pointer (some ⟨g, 0, none⟩) := by simpa using h3
  have g4 : tmps[4]?.getD undef = .int .i64 e := by simpa using h4
  simp [results, Try.f18, go_sem, g2, g3, g4, asAddr, s0, s1]
def TqRel (w : World) (p : Int) (v : Value) (l : List Bool) (i : Value) (u : World) : Prop :=
  ∃ k : Nat, k ≤ l.length ∧ i = .int .i64 (k : Int) ∧ (∀ j, j < k → l[j]? = some true) ∧ SpBox u w.heap.size p v ∧ SpBox u (w.heap.size + 1) 0 (.slice none 0 0) ∧ Below w.heap.size w u
set_option maxHeartbeats 4000000 in
theorem r8Take_any (w : World) (p : Int) (v : Value) (l : List Bool) (hv : Boos w v l) (hlen : l.length ≤ 70368744177664) :
    Calls Try.prog 18 #[.agg #[.int .i64 p, v]] w (TkOut w (spTake p l)) := by
  obtain ⟨w0, hw0, hb0, hz, hA, hR⟩ := two_boxes w p v
  have HCK := Lib.hid (r8check_any w0 p v l (hv.below hb0) hlen)
  have HV := Lib.hid hv
  obtain ⟨A, m, c, rfl, N, hnc, hcm⟩ := hv.form
  have HB0 := Lib.hid hb0
  have HW0 := Lib.hid hw0
  have HA := Lib.hid hA
  have HR := Lib.hid hR
  have HLEN := Lib.hid hlen
  clear hv hlen hb0 hz hw0 hA hR
  by_cases hok : spOk p l
  · rw [if_pos hok] at HCK
    have HOK := Lib.hid hok
    have hl := spOk_len hok
    have HL : Hid ((l.length : Int) = p) := hl.1
    have hp9 : p ≤ 4096 := hok.2.1
    clear hok hl
    go_enter Try.func18, Try.ntmps18
    go_wp2_with fail
    rw [HW0.out]
    refine HCK.out.mono ?_
    rintro e w1 ⟨rfl, hb1⟩
    have HA1 : Hid (SpBox w1 w.heap.size p (.slice A m c)) := HA.out.below hb1
    have HR1 : Hid (SpBox w1 (w.heap.size + 1) 0 (.slice none 0 0)) := HR.out.below hb1
    have HB1 : Hid (Below w.heap.size w w1) := HB0.out.trans (hb1.mono HB0.out.size)
    have a0 := HA1.out.c0
    have a1 := HA1.out.c1
    clear hb1
    go_wp2_with fail
    clear a0 a1
    go_loopw [5] (fun i u => TqRel w p (.slice A m c) l i u) (fun i _ => l.length - (intOf i).toNat)
    case atStart => exact ⟨0, Nat.zero_le _, rfl, fun j hj => by omega, HA1.out, HR1.out, HB1.out⟩
    case round =>
      obtain ⟨k, hk, rfl, hall, hs, hr, hb⟩ := hrel
      have HAL := Lib.hid hall
      have HS := Lib.hid hs
      have HRR := Lib.hid hr
      have HBB := Lib.hid hb
      have p0 := hs.c0
      have p1 := hs.c1
      clear hall hs hr hb
      by_cases hlt : k < l.length
      · obtain ⟨bl, off, rfl, hbl, hcell⟩ := (HV.out.below HBB.out).at hlt
        have hc := hcell k hlt
        have hq : l[k]? = some l[k] := List.getElem?_eq_getElem hlt
        have hkp : (k : Int) < p := by have := HL.out; omega
        have hkm : (k : Int) < (m : Int) := by have := N.out; omega
        have HLT := Lib.hid hlt
        generalize l[k] = b at *
        clear hcell hbl
        cases b with
        | true =>
          have HQ := Lib.hid hq
          clear hq
          go_wp2_with fail
          go_roundw
          all_goals first
            | exact ⟨k + 1, hlt, by push_cast; rfl, fun j hj => by (by_cases e : j = k; (subst e; exact HQ.out); exact HAL.out j (by omega)), HS.out, HRR.out, HBB.out⟩
            | (show l.length - ((k : Int) + 1).toNat < l.length - (k : Int).toNat; omega)
        | false =>
          obtain ⟨r, hr⟩ := free_first HAL.out hq
          rw [spTake_hit HOK.out hr]
          have HWI := Lib.hid (r8with_any wr p _ l k true (HV.out.below HBB.out) HLEN.out hlt)
          clear hr hq
          go_wp2_with fail
          refine HWI.out.mono ?_
          rintro e w2 ⟨x, rfl, hx2, hb2⟩
          have HR2 : Hid (SpBox w2 (w.heap.size + 1) 0 (.slice none 0 0)) := HRR.out.below hb2
          have HBW2 : Hid (Below w.heap.size w w2) := HBB.out.trans (hb2.mono HBB.out.size)
          obtain ⟨Ax, nx, cx, rfl, NX, _, _⟩ := hx2.boos.form
          have HX2 := Lib.hid hx2
          have HXB : Hid ((Value.slice Ax nx cx).ownBlock ≠ some (w.heap.size + 1)) := fun hk => by have := (World.ownsRow.lt HX2.out _ hk).1; have := HRR.out.lt; omega
          clear hx2 hb2
          go_wp2_with (refine wpList_storeS HR2.out spInfo rfl _ _ rfl rfl (ds := [.int .i64 p, .slice Ax nx cx]) rfl rfl (one_sp p Ax nx cx) ?_; intro w3 hR3 hg3 hz3)
          refine bodyPost_ret (r8res (n := (k : Int)) (e := 0) hR3 rfl rfl rfl) rfl ?_
          exact ⟨_, rfl, OwnV.lower (World.ownsRow.kept HX2.out hg3 (.inr HXB.out)) HBB.out.size, HBW2.out.grown hg3 HBW2.out.size (fun k e => by cases e; omega)⟩
      · have hkp : ¬ (k : Int) < p := by have := HL.out; omega
        have hke : k = l.length := by omega
        have HSN := Lib.hid (spTake_none HOK.out (by have := idx_none HAL.out; rw [hke] at this; exact this))
        clear hke
        go_wp2_with (refine wpList_storeS HRR.out spInfo rfl _ _ rfl rfl (ds := [.int .i64 0, .slice none 0 0]) rfl rfl (nil_one 0) ?_; intro w9 hR9 hg9 hz9)
        refine bodyPost_ret (r8res (n := 0) (e := 9) hR9 rfl rfl rfl) rfl ?_
        rw [HSN.out]
        exact ⟨_, rfl, OwnV.nil _ _ _, HBB.out.grown hg9 HBB.out.size (fun k e => by cases e; omega)⟩
  · rw [if_neg hok] at HCK
    rw [show spTake p l = (0, 0, [], 2) from if_pos hok]
    clear hok
    go_enter Try.func18, Try.ntmps18
    go_wp2_with fail
    rw [HW0.out]
    refine HCK.out.mono ?_
    rintro e w1 ⟨rfl, hb1⟩
    have HA1 : Hid (SpBox w1 w.heap.size p (.slice A m c)) := HA.out.below hb1
    have HR1 : Hid (SpBox w1 (w.heap.size + 1) 0 (.slice none 0 0)) := HR.out.below hb1
    have HB1 : Hid (Below w.heap.size w w1) := HB0.out.trans (hb1.mono HB0.out.size)
    have a0 := HA1.out.c0
    have a1 := HA1.out.c1
    clear hb1
    go_wp2_with (refine wpList_storeS HR1.out spInfo rfl _ _ rfl rfl (ds := [.int .i64 0, .slice none 0 0]) rfl rfl (nil_one 0) ?_; intro w9 hR9 hg9 hz9)
    refine bodyPost_ret (r8res (n := 0) (e := 2) hR9 rfl rfl rfl) rfl ?_
    exact ⟨_, rfl, OwnV.nil _ _ _, HB1.out.grown hg9 HB1.out.size (fun k e => by cases e; omega)⟩
end Go.Proofs.Ytncjobeahpjnpaa
