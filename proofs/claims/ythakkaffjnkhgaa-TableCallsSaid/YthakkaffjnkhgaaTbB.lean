/-
  Lists of ints as rows: slices.Index, slices.Clone, tallymankit.Ints; package table's isPage, trimmed, mayStand by their contracts. Conditions: lists of at most 2^30 numbers.
-/
import Derived.Test.YthakkaffjnkhgaaTbA
import Derived.Test.YthakkaffjnkhgaaRowV
import Derived.Test.YthakkaffjnkhgaaSBx
import Derived.Test.YthakkaffjnkhgaaOrdT
import Derived.Maps.OwnSet
namespace Go.Proofs.Ythakkaffjnkhgaa
open Go.ChangeShapes Go.WideShapes Go.ChangeAt Go.RowKit Go.Maps
set_option maxRecDepth 100000
set_option linter.unusedVariables false
set_option linter.unusedSimpArgs false

theorem Rowz.atZ {w : World} {A : Option Addr} {n c k : Nat} {zs : List Int} (h : Rowz w (.slice A n c) (intC zs)) (hk : k < zs.length) :
    ∃ b off, A = some ⟨b, off, none⟩ ∧ b < w.heap.size ∧ w.cell? ⟨b, off + k, none⟩ = some (.int .i64 (Proofs.Ythakkaffjnkhgaa.atZ zs k)) := by
  obtain ⟨b, off, rfl, hb, hc⟩ := h.at (k := k) (by rw [intC_len]; exact hk)
  exact ⟨b, off, rfl, hb, (hc k (by rw [intC_len]; exact hk)).trans (by rw [intC_at, atZ_lt hk])⟩
theorem Rowz.lenZ {w : World} {A : Option Addr} {n c : Nat} {zs : List Int} (h : Rowz w (.slice A n c) (intC zs)) : n = zs.length := by
  obtain ⟨A', c', e, _⟩ := h
  injection e with _ e2 _
  rw [e2, intC_len]
/-- The slice value v holds these ints; a row of its own lies from block B on. -/
def RowO (w : World) (B : Nat) (v : Value) (zs : List Int) : Prop := Rowz w v (intC zs) ∧ ∀ k, v.ownBlock = some k → B ≤ k ∧ k < w.heap.size
theorem RowO.below {w w' : World} {B : Nat} {v : Value} {zs : List Int} (h : RowO w B v zs) (hb : Below w.heap.size w w') : RowO w' B v zs := ⟨h.1.below hb, fun k hk => ⟨(h.2 k hk).1, Nat.lt_of_lt_of_le (h.2 k hk).2 hb.size⟩⟩
theorem RowO.lower {w : World} {B B' : Nat} {v : Value} {zs : List Int} (h : RowO w B v zs) (hB : B' ≤ B) : RowO w B' v zs := ⟨h.1, fun k hk => ⟨Nat.le_trans hB (h.2 k hk).1, (h.2 k hk).2⟩⟩
theorem RowO.nil (w : World) (B : Nat) : RowO w B (.slice none 0 0) [] := ⟨Rowz.nil w, fun k hk => by simp [Value.ownBlock] at hk⟩
theorem OwnV.rowO {w : World} {B : Nat} {v : Value} {zs : List Int} (h : OwnV w B 3 v (intC zs)) : RowO w B v zs := ⟨h.rowz, fun k hk => World.ownsRow.lt h k hk⟩
theorem RowO.grown {w w' : World} {B g : Nat} {v : Value} {zs : List Int} (h : RowO w B v zs) (hg : w.grownBy w' (some g)) (hne : g < B) : RowO w' B v zs :=
  ⟨h.1.grown hg (fun k hk e => by have := (h.2 k hk).1; omega), fun k hk => ⟨(h.2 k hk).1, Nat.lt_of_lt_of_le (h.2 k hk).2 hg.size⟩⟩

/-! slices.Index. -/
def ixT (zs : List Int) (p : Int) : Int := if idxZ zs p < zs.length then (idxZ zs p : Nat) else -1
def IxZRel (zs : List Int) (p : Int) (i : Value) : Prop := ∃ k : Nat, k ≤ zs.length ∧ i = .int .i64 (k : Int) ∧ ∀ i, i < k → atZ zs i ≠ p
set_option maxHeartbeats 1000000 in
theorem zindex_any (w : World) (v : Value) (zs : List Int) (p : Int) (hv : Rowz w v (intC zs)) (hlen : zs.length ≤ 1073741824) :
    Calls Try.prog 32 #[v, .int .i64 p] w fun e w' => e = .returned (.int .i64 (ixT zs p)) ∧ w = w' := by
  obtain ⟨A, n, c, rfl, N, hnc, hcm⟩ := hv.form
  have HV := Lib.hid hv
  have HL := Lib.hid hlen
  have hn : n = zs.length := hv.lenZ
  subst hn
  clear hv hlen N
  go_enter Try.func32, Try.ntmps32
  go_wp2
  go_loop [8] (fun i => IxZRel zs p i) (fun i => zs.length - (intOf i).toNat)
  case atStart => exact ⟨0, by omega, rfl, by simp⟩
  case round =>
    obtain ⟨k, hk, rfl, hall⟩ := hrel
    have HA := Lib.hid hall
    clear hall
    by_cases hlt : k < zs.length
    · have hkn : (k : Int) < (zs.length : Int) := by omega
      obtain ⟨b, off, rfl, hb, hc⟩ := HV.out.atZ hlt
      have HLT : Hid (k < zs.length) := hlt
      clear hlt
      generalize hy : atZ zs k = y at *
      have HY := Lib.hid hy
      clear hy
      by_cases e : p = y
      · subst e
        go_wp2
        go_ret
        refine ⟨ret_int ?_, rfl⟩
        have hi := idxZ_is p zs k (by have := HLT.out; omega) HA.out (fun _ => HY.out)
        unfold ixT
        rw [hi, if_pos HLT.out]
      · have he : (p == y) = false := by simpa using e
        have HN := Lib.hid e
        clear e
        go_wp2
        go_roundw
        case rel =>
          refine ⟨k + 1, by have := HLT.out; omega, by have := HL.out; have := HLT.out; go_num, fun i hi => ?_⟩
          by_cases e : i = k
          · subst e; rw [HY.out]; exact fun e => HN.out e.symm
          · exact HA.out i (by omega)
        case measure => have := HLT.out; simp [intOf]; omega
    · obtain rfl : k = zs.length := by omega
      go_wp2
      go_ret
      refine ⟨ret_int ?_, rfl⟩
      have hi := idxZ_is p zs zs.length (Nat.le_refl _) HA.out (fun h => absurd h (Nat.lt_irrefl _))
      unfold ixT
      rw [hi, if_neg (Nat.lt_irrefl _)]

/-! slices.Clone. -/
/-- What a call that makes a list of ints of its own leaves. -/
def MadeZ (w : World) (zs : List Int) (e : Ending) (w' : World) : Prop := ∃ v, e = .returned v ∧ OwnV w' w.heap.size 3 v (intC zs) ∧ Below w.heap.size w w'
set_option maxHeartbeats 1000000 in
theorem zclone_any (w : World) (v : Value) (zs : List Int) (hv : Rowz w v (intC zs)) (hlen : zs.length ≤ 1073741824) :
    Calls Try.prog 34 #[v] w (MadeZ w zs) := by
  obtain ⟨i0, hi0, hz0, hz1, hz2⟩ := info_parts iinfo
  obtain ⟨A, n, c, rfl, N, hnc, hcm⟩ := hv.form
  have HV := Lib.hid hv
  have HE := Lib.hid (OwnV.empty w 3)
  have HL : Hid ((intC zs).length ≤ 1073741824) := by rw [intC_len]; exact hlen
  have hq := fun W a n c n' c' => Lib.run_eql_slice_nil (P := Try.prog) W 22 3 a n c n' c' Try.underlying22
  cases A with
  | none =>
    have hl : zs = [] := by
      obtain ⟨A', c', e, _, _, h3⟩ := hv
      injection e with e1 e2 e3
      subst e1
      rcases h3 with h3 | ⟨b, off, h, _⟩
      · simpa [intC] using h3
      · cases h
    subst hl
    clear hv hlen N
    go_enter Try.func34, Try.ntmps34
    go_wp2
    go_ret
    exact ⟨_, rfl, OwnV.nil _ _ _, Below.refl _ _⟩
  | some ad =>
    clear hv hlen N
    go_enter Try.func34, Try.ntmps34
    go_wp2_with (at_builtin; refine wpList_appV rfl (.tmp 5) (.tmp 6) _ rfl w.heap.size 3 8 i0 _ Try.underlying22 hi0 hz0 hz1 hz2 rfl _ [] rfl HE.out _ (intC zs) rfl (HV.out.below (below_new w _)) (intC_one zs) (by have := HL.out; simp only [List.length_nil]; omega) (by have := HL.out; simp only [List.length_nil, maxLen]; omega) (by simp) ?_; intro v1 w1 hown1 hg1 hat1; have hb1 := OwnV.below HE.out (below_new w _) (by simp) hg1)
    go_ret
    exact ⟨_, rfl, by rw [List.nil_append] at hown1; exact hown1, hb1⟩

/-! tallymankit.Ints. -/
def KzRel (w : World) (l m : List Int) (i : Value) (u : World) : Prop :=
  ∃ k : Nat, k ≤ l.length ∧ i = .int .i64 (k : Int) ∧ (∀ j, j < k → atZ l j = atZ m j) ∧ Below w.heap.size w u
set_option maxHeartbeats 4000000 in
theorem zints_any (w : World) (v x : Value) (l m : List Int) (hv : Rowz w v (intC l)) (hx : Rowz w x (intC m)) :
    Calls Try.prog 18 #[v, x] w fun e w' => e = .returned (.bool (decide (l = m))) ∧ Below w.heap.size w w' := by
  obtain ⟨A, n, c, rfl, N0, hnc, hcm⟩ := hv.form
  obtain ⟨A', n', c', rfl, N0', hnc', hcm'⟩ := hx.form
  have N : Hid (n = l.length) := N0.out.trans (intC_len l)
  have N' : Hid (n' = m.length) := N0'.out.trans (intC_len m)
  have HV := Lib.hid hv
  have HX := Lib.hid hx
  generalize hd : decide (l = m) = d
  have HD := Lib.hid hd
  clear hv hx hd N0 N0'
  by_cases hl : n = n'
  · subst hl
    go_enter Try.func18, Try.ntmps18
    go_wp2_with fail
    go_loopw [5] (fun i wr => KzRel w l m i wr) (fun i _ => l.length - (intOf i).toNat)
    case atStart => exact ⟨0, by omega, rfl, fun j hj => by omega, Below.refl _ _⟩
    case round =>
      obtain ⟨k, hk, rfl, hall, hbel⟩ := hrel
      have HA := Lib.hid hall
      have HB := Lib.hid hbel
      clear hall hbel
      have hn := N.out
      have hn' := N'.out
      by_cases hlt : k < l.length
      · obtain ⟨b1, o1, rfl, hb1, hc1⟩ := (HV.out.below HB.out).atZ hlt
        obtain ⟨b2, o2, rfl, hb2, hc2⟩ := (HX.out.below HB.out).atZ (k := k) (by omega)
        have d1 : wr.drew.cell? ⟨b1, o1 + k, none⟩ = some (.int .i64 (atZ l k)) := hc1
        have d2 : wr.drew.cell? ⟨b2, o2 + k, none⟩ = some (.int .i64 (atZ m k)) := hc2
        clear hc1 hc2
        generalize e1 : atZ l k = y at *
        generalize e2 : atZ m k = z at *
        have HQ : Hid (atZ l k = y ∧ atZ m k = z) := ⟨e1, e2⟩
        have HBD : Hid (Below w.heap.size w wr.drew) := HB.out.drew
        have D1 := Lib.hid d1
        have D2 := Lib.hid d2
        have hkn : (k : Int) < (n : Int) := by omega
        clear e1 e2 d1 d2 hn hn'
        go_wp2_with fail
        refine wp_region_R (R := fun x y => x = y) (by kernel_rfl) (fun _ => rfl) (fun h k => h.trans k) (by kernel_rfl) (fun d v c a w h => by cases d <;> exact h)
          [(0, false), (1, false), (2, false), (3, false), (4, false), (5, false), (6, false), (7, false), (8, false)] rfl (by kernel_rfl) (by kernel_rfl) ?_
        simp only [sel, List.getElem?_toArray, List.getElem?_cons_succ, List.getElem?_cons_zero]
        generalize wr.drew = wd at *
        iterate 3 (refine sch_take ?_ rfl ?_ ?_; rotate_left; (focus (intro u hu; go_simp <;> rfl)); simp only [Act.put, List.setIfInBounds_toArray, List.set_cons_zero, List.set_cons_succ])
        (refine sch_take ?_ rfl ?_ ?_; rotate_left; (focus (intro u hu; subst hu; have c1 := D1.out; go_simp <;> rfl)); simp only [Act.put, List.setIfInBounds_toArray, List.set_cons_zero, List.set_cons_succ])
        iterate 3 (refine sch_take ?_ rfl ?_ ?_; rotate_left; (focus (intro u hu; go_simp <;> rfl)); simp only [Act.put, List.setIfInBounds_toArray, List.set_cons_zero, List.set_cons_succ])
        (refine sch_take ?_ rfl ?_ ?_; rotate_left; (focus (intro u hu; subst hu; have c2 := D2.out; go_simp <;> rfl)); simp only [Act.put, List.setIfInBounds_toArray, List.set_cons_zero, List.set_cons_succ])
        (refine sch_take ?_ rfl ?_ ?_; rotate_left; (focus (intro u hu; go_simp <;> rfl)); simp only [Act.put, List.setIfInBounds_toArray, List.set_cons_zero, List.set_cons_succ])
        refine sch_nil ?_
        by_cases e : y = z
        · subst e
          go_wp2_with fail
          go_roundw
          case rel =>
            refine ⟨k + 1, by omega, by go_num, fun j hj => ?_, HBD.out⟩
            by_cases e : j = k
            · subst e; rw [HQ.out.1, HQ.out.2]
            · exact HA.out j (by omega)
          case measure => simp [intOf]; omega
        · have hf : d = false := by
            rw [← HD.out]
            simp only [decide_eq_false_iff_not]
            rintro rfl
            have := HQ.out
            exact e (this.1.symm.trans this.2)
          subst hf
          go_wp2_with fail
          go_ret
          exact ⟨rfl, HBD.out⟩
      · have hf : d = true := by
          rw [← HD.out]
          simp only [decide_eq_true_eq]
          refine atZ_ext (by omega) (fun j => ?_)
          by_cases hj : j < k
          · exact HA.out j hj
          · rw [atZ_ge (by omega), atZ_ge (by omega)]
        subst hf
        have hkn : ¬ (k : Int) < (n : Int) := by omega
        clear hn hn'
        go_wp2_with fail
        go_ret
        exact ⟨rfl, HB.out⟩
  · obtain rfl : d = false := by
      rw [← HD.out]
      simp only [decide_eq_false_iff_not]
      rintro rfl
      exact hl (N.out.trans N'.out.symm)
    have hne : ¬ (n : Int) = (n' : Int) := by omega
    go_enter Try.func18, Try.ntmps18
    go_wp2_with fail
    go_ret
    exact ⟨rfl, Below.refl _ _⟩

/-! isPage. -/
theorem ispage_any (p : Int) (w : World) : Calls Try.prog 31 #[.int .i64 p] w fun e w' => e = .returned (.bool (decide (pgOk p))) ∧ w = w' := by
  unfold pgOk
  generalize hd : decide (2 ≤ p ∧ p < 4096) = d
  have HD := Lib.hid hd
  clear hd
  go_enter Try.func31, Try.ntmps31
  go_wp2
  all_goals
    go_ret
    exact ⟨by rw [← HD.out]; simp; omega, rfl⟩
end Go.Proofs.Ythakkaffjnkhgaa
