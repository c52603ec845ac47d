/-
  The small functions of the statements of layer 4, and the kit's: row, bytes, Ints, Crash, LightCrash, by their contracts. Conditions: none.
-/
import Derived.Test.YtmfcckmcbmlhmaaSecL
namespace Go.Proofs.Ytmfcckmcbmlhmaa
open Go.RowKit Go.Maps
set_option maxRecDepth 100000

def rowB (v : UInt8) : List UInt8 := List.replicate 512 v
theorem rowB_len (v : UInt8) : (rowB v).length = 512 := List.length_replicate
def fillB (v : UInt8) (k : Nat) : List UInt8 := List.replicate k v ++ List.replicate (512 - k) 0
theorem fillB_len (v : UInt8) (k : Nat) (hk : k ≤ 512) : (fillB v k).length = 512 := by
  unfold fillB
  rw [List.length_append, List.length_replicate, List.length_replicate]
  omega
theorem fillB_set (v : UInt8) (k : Nat) (hk : k < 512) : (byc (fillB v k)).set k (.int .u8 (v.toNat : Int)) = byc (fillB v (k + 1)) := by
  have h1 : (byc (fillB v k)).set k (.int .u8 (v.toNat : Int)) = byc ((fillB v k).set k v) := by simp [byc, List.map_set]
  rw [h1]
  congr 1
  unfold fillB
  rw [List.set_append_right _ _ (by rw [List.length_replicate]; exact Nat.le_refl _), List.length_replicate, Nat.sub_self, show 512 - k = (512 - (k + 1)) + 1 by omega, List.replicate_succ, List.set_cons_zero, List.replicate_succ']
  simp
theorem fillB_all (v : UInt8) : fillB v 512 = rowB v := List.append_nil _
def RowRel (w : World) (v : UInt8) (i : Value) (wr : World) : Prop :=
  ∃ k : Nat, k ≤ 512 ∧ i = .int .i64 (k : Int) ∧ wr.ownsRow w.heap.size 5 1 (.slice (some ⟨w.heap.size, 0, none⟩) 512 512) 512 (byc (fillB v k)) ∧ Below w.heap.size w wr
def IntsRel (l m : List Nat) (i : Value) (w wr : World) : Prop := ∃ k : Nat, k ≤ l.length ∧ i = .int .i64 (k : Int) ∧ l.take k = m.take k ∧ Below w.heap.size w wr
theorem inz_get (l : List Nat) (k : Nat) (hk : k < (inz l).length) : (inz l)[k] = .int .i64 ((l[k]'(by rw [inz_len] at hk; exact hk) : Nat) : Int) := by simp [inz]
set_option maxRecDepth 100000 in
set_option maxHeartbeats 1000000 in
theorem kints_any (w : World) (va vb : Value) (l m : List Nat) (ha : Rowz w va (inz l)) (hb : Rowz w vb (inz m)) :
    Calls Try.prog 22 #[va, vb] w fun e w' => e = .returned (.bool (decide (l = m))) ∧ Below w.heap.size w w' := by
  obtain ⟨A1, n1, c1, rfl, N1, hnc1, hcm1⟩ := ha.form
  obtain ⟨A2, n2, c2, rfl, N2, hnc2, hcm2⟩ := hb.form
  rw [inz_len] at N1 N2
  have HA := Lib.hid ha
  have HB := Lib.hid hb
  clear ha hb
  by_cases hl : l.length = m.length
  · obtain rfl : n1 = n2 := by have := N1.out; have := N2.out; omega
    go_enter Try.func22, Try.ntmps22
    go_wp2_with fail
    go_loopw [5] (fun i wr => IntsRel l m i w wr) (fun i _ => n1 - (intOf i).toNat)
    case atStart => exact ⟨0, by omega, rfl, rfl, Below.refl _ _⟩
    case round =>
      obtain ⟨k, hk, rfl, htake, hbel⟩ := hrel
      have HT := Lib.hid htake
      have HL := Lib.hid hbel
      by_cases h : k < l.length
      · obtain ⟨b1, o1, rfl, hb1, hc1⟩ := (HA.out.below hbel).at (k := k) (by rw [inz_len]; exact h)
        obtain ⟨b2, o2, rfl, hb2, hc2⟩ := (HB.out.below hbel).at (k := k) (by rw [inz_len]; omega)
        have d1 := hc1 k (by rw [inz_len]; exact h)
        have d2 := hc2 k (by rw [inz_len]; omega)
        rw [inz_get] at d1 d2
        have hkn : (k : Int) < (n1 : Int) := by have := N1.out; omega
        have HD1 := Lib.hid (show wr.drew.cell? _ = _ from d1)
        have HD2 := Lib.hid (show wr.drew.cell? _ = _ from d2)
        have HT1 : Hid (l.take (k + 1) = l.take k ++ [l[k]]) := List.take_succ_eq_append_getElem h
        have HT2 : Hid (m.take (k + 1) = m.take k ++ [m[k]'(by omega)]) := List.take_succ_eq_append_getElem (by omega)
        have HLD := Lib.hid (show Below w.heap.size w wr.drew from HL.out.drew)
        have HNE : Hid (l[k] ≠ m[k]'(by omega) → decide (l = m) = false) := fun hne => by
          rw [decide_eq_false_iff_not]; rintro rfl; exact hne rfl
        clear hc1 hc2 d1 d2 hb1 hb2 htake hbel HL
        generalize m[k]'(by omega) = y at *
        generalize l[k] = x at *
        go_wp2_with fail
        refine wp_region_R (R := fun x y => x = y) (by kernel_rfl) (fun _ => rfl) (fun h k => h.trans k) (by kernel_rfl) (fun d v c a w h => by cases d <;> exact h)
          [(0, false), (1, false), (2, false), (3, false), (4, false), (5, false), (6, false), (7, false), (8, false)] rfl (by kernel_rfl) (by kernel_rfl) ?_
        simp only [sel, List.getElem?_toArray, List.getElem?_cons_succ, List.getElem?_cons_zero]
        generalize wr.drew = wd at *
        iterate 3 (refine sch_take ?_ rfl ?_ ?_; rotate_left; (focus (intro u hu; go_simp <;> rfl)); simp only [Act.put, List.setIfInBounds_toArray, List.set_cons_zero, List.set_cons_succ])
        (refine sch_take ?_ rfl ?_ ?_; rotate_left; (focus (intro u hu; have hc := hu ▸ HD1.out; clear hu; go_simp <;> rfl)); simp only [Act.put, List.setIfInBounds_toArray, List.set_cons_zero, List.set_cons_succ])
        iterate 3 (refine sch_take ?_ rfl ?_ ?_; rotate_left; (focus (intro u hu; go_simp <;> rfl)); simp only [Act.put, List.setIfInBounds_toArray, List.set_cons_zero, List.set_cons_succ])
        (refine sch_take ?_ rfl ?_ ?_; rotate_left; (focus (intro u hu; have hc := hu ▸ HD2.out; clear hu; go_simp <;> rfl)); simp only [Act.put, List.setIfInBounds_toArray, List.set_cons_zero, List.set_cons_succ])
        (refine sch_take ?_ rfl ?_ ?_; rotate_left; (focus (intro u hu; go_simp <;> rfl)); simp only [Act.put, List.setIfInBounds_toArray, List.set_cons_zero, List.set_cons_succ])
        refine sch_nil ?_
        by_cases hxy : x = y
        · subst hxy
          have hq : ((x : Int) == (x : Int)) = true := by simp
          go_wp2_with fail
          go_roundw
          case rel => exact ⟨k + 1, by omega, by go_num, by rw [HT1.out, HT2.out, HT.out], HLD.out⟩
          case measure => simp [intOf]; omega
        · have hq := ne_int hxy
          have HF := Lib.hid (HNE.out hxy)
          go_wp2_with fail
          go_ret
          exact ⟨by rw [HF.out]; rfl, HLD.out⟩
      · have hkn : ¬ (k : Int) < (n1 : Int) := by have := N1.out; omega
        have HE : Hid (decide (l = m) = true) := by
          rw [Hid, decide_eq_true_iff]
          rw [List.take_of_length_le (by omega), List.take_of_length_le (by omega)] at htake
          exact htake
        clear htake hbel
        go_wp2_with fail
        go_ret
        exact ⟨by rw [HE.out]; rfl, HL.out⟩
  · have hn : ((n1 : Int) == (n2 : Int)) = false := ne_int (by have := N1.out; have := N2.out; omega)
    have HE : Hid (decide (l = m) = false) := by
      rw [Hid, decide_eq_false_iff_not]
      rintro rfl
      exact hl rfl
    go_enter Try.func22, Try.ntmps22
    go_wp2_with fail
    go_ret
    exact ⟨by rw [HE.out]; rfl, Below.refl _ _⟩

theorem binfo : (Try.prog.info? 4).map (fun i => (i.zero, i.size, i.bytes)) = some (some (.bool false), 1, 1) := by kernel_rfl
theorem bools_one (l : List Bool) : ∀ u ∈ l.map Value.bool, u.oneCell' = true := by
  intro u hu
  obtain ⟨b, _, rfl⟩ := List.mem_map.1 hu
  rfl
theorem Rowz.news {w : World} {A : Addr} {n c : Nat} {vs : List Value} (h : Rowz w (.slice (some A) n c) vs) : ∀ j u, vs[j]? = some u → w.cell? (A.add j) = some u := by
  intro j u hu
  obtain ⟨hj, rfl⟩ := List.getElem?_eq_some_iff.1 hu
  obtain ⟨b, off, e, _, hc⟩ := h.at hj
  injection e with e
  subst e
  rw [plainAdd]
  exact hc j hj
theorem bools_rowz {w : World} {B : Nat} {v : Value} {n : Nat} {xs : List Value} (h : w.ownsRow B 4 1 v n xs) : Rowz w v xs := by
  have hl : xs.length = n := by simpa using h.1
  rcases h.2 with ⟨rfl, h0⟩ | ⟨g, cap, cur, rfl, hb, hg, h1, h2, h3, h4⟩
  · obtain rfl : xs = [] := List.eq_nil_of_length_eq_zero (by omega)
    exact Rowz.nil w
  · refine ⟨_, cap, by rw [hl], by omega, h2, .inr ⟨g, 0, rfl, (Array.getElem?_eq_some_iff.1 hg).1, fun j hj => ?_⟩⟩
    have := World.ownsRow.cells h (g := g) rfl j xs[j] (List.getElem?_eq_getElem hj)
    rw [plainAdd] at this
    exact this
end Go.Proofs.Ytmfcckmcbmlhmaa
