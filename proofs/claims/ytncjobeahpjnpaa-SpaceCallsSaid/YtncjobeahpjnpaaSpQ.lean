/-
  tallymanref08.Free. Conditions: none.
-/
import Derived.Test.YtncjobeahpjnpaaSpM
namespace Go.Proofs.Ytncjobeahpjnpaa
open Go.ChangeShapes Go.WideShapes Go.ChangeAt Go.RowKit Go.Maps
set_option maxRecDepth 100000
set_option linter.unusedVariables false
set_option linter.unusedSimpArgs false

theorem idxN_le (l : List Bool) (u : Bool) (k : Nat) : (idxN l u k).length ≤ k := by
  have : (idxN l u k).length ≤ (List.range k).length := List.length_filter_le _ _
  rwa [List.length_range] at this
def FnRel (w : World) (v d i : Value) (p : Int) (u : World) : Prop := i = .int .i64 0 ∧ d = .slice none 0 0 ∧ SpBox u w.heap.size p v ∧ Below w.heap.size w u
def FrRel (w : World) (v : Value) (p : Int) (l : List Bool) (d i : Value) (u : World) : Prop :=
  ∃ k : Nat, k ≤ l.length ∧ i = .int .i64 (k : Int) ∧ OwnV u (w.heap.size + 1) 3 d (natC (idxN l false k)) ∧ SpBox u w.heap.size p v ∧ Below w.heap.size w u
set_option maxHeartbeats 4000000 in
theorem r8Free_any (w : World) (p : Int) (v : Value) (l : List Bool) (hv : Boos w v l) (hlen : l.length ≤ 70368744177664) :
    Calls Try.prog 29 #[.agg #[.int .i64 p, v]] w (MadeN w (spFreeC p l)) := by
  obtain ⟨w0, hw0⟩ : ∃ w0, w.alloc (.cells #[.int .i64 p, v] 24) = w0 := ⟨_, rfl⟩
  have hb0 : Below w.heap.size w w0 := hw0 ▸ below_new w _
  have hS : SpBox w0 w.heap.size p v := hw0 ▸ SBox.new w 24 [.int .i64 p, v]
  have HCK := Lib.hid fun W (h : Below w.heap.size w W) => r8check_any W p v l (hv.below h) hlen
  have HV := Lib.hid hv
  obtain ⟨A, m, c, rfl, N, hnc, hcm⟩ := hv.form
  have HB0 := Lib.hid hb0
  have HW0 := Lib.hid hw0
  have HS := Lib.hid hS
  have p0 : (w.alloc (.cells #[.int .i64 p, .slice A m c] 24)).cell? ⟨w.heap.size, 0, none⟩ = some (.int .i64 p) := by rw [HW0.out]; exact HS.out.c0
  clear p0 hv hlen hb0 hw0 hS
  obtain ⟨i0, hi0, hz0, hz1, hz2⟩ := info_parts iinfo
  by_cases hok : spOk p l
  · have hl := spOk_len hok
    rw [show spFreeC p l = idxN l false l.length from if_pos hok]
    rw [if_pos hok] at HCK
    have HL : Hid (l.length ≤ 4096) := show l.length ≤ 4096 from hl.2.2
    clear hok hl
    go_enter Try.func29, Try.ntmps29
    go_wp2_with fail
    rw [HW0.out]
    go_loopw [3, 4] (fun d i u => FrRel w (.slice A m c) p l d i u) (fun _ i _ => l.length - (intOf i).toNat)
    case atStart => exact ⟨0, Nat.zero_le _, rfl, OwnV.nil _ _ _, HS.out, HB0.out⟩
    case round =>
      obtain ⟨k, hk, rfl, ho, hs, hb⟩ := hrel
      have HO := Lib.hid ho
      have HSS := Lib.hid hs
      have HBB := Lib.hid hb
      have p0 := hs.c0
      have p1 := hs.c1
      clear ho hs hb
      by_cases hlt : k < l.length
      · have hkm : (k : Int) < (m : Int) := by have := N.out; omega
        go_wp2_with fail
        refine (HCK.out wr HBB.out).mono ?_
        rintro e w2 ⟨rfl, hb2⟩
        have HO2 : Hid (OwnV w2 (w.heap.size + 1) 3 _ (natC (idxN l false k))) := OwnV.keep HO.out hb2
        have HS2 : Hid (SpBox w2 w.heap.size p (.slice A m c)) := HSS.out.below hb2
        have HB2 : Hid (Below w.heap.size w w2) := HBB.out.trans (hb2.mono HBB.out.size)
        obtain ⟨bl, off, rfl, hbl, hcell⟩ := (HV.out.below HB2.out).at hlt
        have hc := hcell k hlt
        have hq : l[k]? = some l[k] := List.getElem?_eq_getElem hlt
        generalize l[k] = b at *
        have HQ := Lib.hid hq
        have q0 := HS2.out.c0
        have q1 := HS2.out.c1
        clear hcell hbl hb2 hq p0 p1
        cases b with
        | true =>
          go_wp2_with fail
          go_roundw
          all_goals first
            | exact ⟨k + 1, hlt, by push_cast; rfl, by (rw [idxN_succ, HQ.out]; simpa using HO2.out), HS2.out, HB2.out⟩
            | (show l.length - ((k : Int) + 1).toNat < l.length - (k : Int).toNat; omega)
        | false =>
          go_wp2_with (at_builtin; refine wpList_appV rfl (.tmp 23) (.tmp 25) _ rfl (w.heap.size + 1) 3 8 i0 _ Try.underlying34 hi0 hz0 hz1 hz2 rfl _ (natC (idxN l false k)) rfl (OwnV.keep HO2.out (below_new _ _)) _ (natC [k]) rfl (Rowz.lit w2 [.int .i64 (k : Int)] 3 (by simp [maxLen])) (natC_one _) (by have := idxN_le l false k; have := HL.out; simp only [natC_len, List.length_cons, List.length_nil]; omega) (by have := idxN_le l false k; have := HL.out; simp only [natC_len, List.length_cons, List.length_nil, maxLen]; omega) (by have := HS2.out.lt; simp only [World.size_alloc]; omega) ?_; intro d3 w3 ho3 hg3 hat3; have HO3 : Hid (OwnV w3 (w.heap.size + 1) 3 d3 (natC (idxN l false k ++ [k]))) := (by rw [Hid, natC_app]; exact ho3); have HS3 : Hid (SpBox w3 w.heap.size p (.slice (some ⟨bl, off, none⟩) m c)) := SBox.grownO' (HS2.out.alloc _) hg3 (fun e => by have := (World.ownsRow.lt HO2.out _ e).1; omega); have HB3 : Hid (Below w.heap.size w w3) := (HB2.out.alloc HB2.out.size _).grown hg3 (by have := HB2.out.size; simp only [World.size_alloc]; omega) (fun j hj => by have := (World.ownsRow.lt HO2.out _ hj).1; omega); clear ho3 hg3 hat3)
          go_roundw
          all_goals first
            | exact ⟨k + 1, hlt, by push_cast; rfl, by (rw [idxN_succ, HQ.out]; simpa using HO3.out), HS3.out, HB3.out⟩
            | (show l.length - ((k : Int) + 1).toNat < l.length - (k : Int).toNat; omega)
      · have hkm : ¬ (k : Int) < (m : Int) := by have := N.out; omega
        have hke : k = l.length := by omega
        go_wp2_with fail
        go_ret
        exact ⟨_, rfl, OwnV.lower (hke ▸ HO.out) (by omega), HBB.out⟩
  · rw [show spFreeC p l = [] from if_neg hok]
    rw [if_neg hok] at HCK
    clear hok
    go_enter Try.func29, Try.ntmps29
    go_wp2_with fail
    rw [HW0.out]
    go_loopw [3, 4] (fun d i u => FnRel w (.slice A m c) d i p u) (fun _ _ _ => 0)
    case atStart => exact ⟨rfl, rfl, HS.out, HB0.out⟩
    case round =>
      obtain ⟨rfl, rfl, hs, hb⟩ := hrel
      have HSS := Lib.hid hs
      have HBB := Lib.hid hb
      have p0 := hs.c0
      have p1 := hs.c1
      clear hs hb
      by_cases hlt : (0 : Int) < (m : Int)
      · go_wp2_with fail
        refine (HCK.out wr HBB.out).mono ?_
        rintro e w2 ⟨rfl, hb2⟩
        have HB2 : Hid (Below w.heap.size w w2) := HBB.out.trans (hb2.mono HBB.out.size)
        clear hb2
        go_wp2_with fail
        go_ret
        exact ⟨_, rfl, OwnV.nil _ _ _, HB2.out⟩
      · go_wp2_with fail
        go_ret
        exact ⟨_, rfl, OwnV.nil _ _ _, HBB.out⟩
end Go.Proofs.Ytncjobeahpjnpaa
