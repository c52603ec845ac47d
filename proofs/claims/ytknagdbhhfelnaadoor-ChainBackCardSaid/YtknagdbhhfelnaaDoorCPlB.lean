/-
  Package pool's small functions by their contracts: made, missing, find, moveOn. Conditions: none but that the pool lies there.
-/
import Derived.Test.YtknagdbhhfelnaaDoorCPlA
namespace Go.Proofs.YtknagdbhhfelnaaDoor
open Go.RowKit Go.Maps
set_option maxRecDepth 100000

def errA (s : St) (x : Int) : Nat := if 0 ≤ x ∧ x < ((secs s / 8 : Nat) : Int) then 0 else 2
section
variable {w : World} {S T : Nat → Prop} {p d fb hand : Nat} {l : List (Fr × Value)} {s : St}
theorem pmade_is (h : PAtL w S T p d fb l hand s) :
    Calls Tryd.prog 33 #[.pointer (some ⟨p, 0, none⟩)] w fun e w' => e = .returned (.bool true) ∧ w = w' := by
  obtain ⟨c0, c1, c2, c3⟩ := h.cells
  have hn : (0 : Int) < (l.length : Int) := by have := h.n8; omega
  have h8 : 0 < l.length := by have := h.n8; omega
  clear h
  go_enter Tryd.func33, Tryd.ntmps33
  go_wp2
  go_ret
  exact ⟨by simp, rfl⟩
theorem pmade_nil (w : World) :
    Calls Tryd.prog 33 #[.pointer none] w fun e w' => e = .returned (.bool false) ∧ w = w' := by
  go_enter Tryd.func33, Tryd.ntmps33
  go_wp2
  go_ret
  exact ⟨rfl, rfl⟩
theorem pmissing_nil (w : World) (x : Int) :
    Calls Tryd.prog 37 #[.pointer none, .int .i64 x] w fun e w' => e = .returned (.int .i64 1) ∧ w = w' := by
  go_enter Tryd.func37, Tryd.ntmps37
  go_wp2_with fail
  refine (pmade_nil w).mono ?_
  rintro e w1 ⟨rfl, rfl⟩
  go_wp2_with fail
  go_ret
  exact ⟨rfl, rfl⟩
theorem pmissing_is (h : PAtL w S T p d fb l hand s) (x : Int) :
    Calls Tryd.prog 37 #[.pointer (some ⟨p, 0, none⟩), .int .i64 x] w fun e w' => e = .returned (.int .i64 (errA s x : Int)) ∧ w = w' := by
  obtain ⟨c0, c1, c2, c3⟩ := h.cells
  have HM := Lib.hid (pmade_is h)
  have HP := Lib.hid (pages_is w S d s h.dsk)
  unfold errA
  clear h
  generalize secs s / 8 = n at *
  by_cases h0 : x < 0
  · rw [if_neg (by omega)]
    go_enter Tryd.func37, Tryd.ntmps37
    go_wp2_with fail
    refine HM.out.mono ?_
    rintro e w1 ⟨rfl, rfl⟩
    go_wp2_with fail
    go_ret
    exact ⟨rfl, rfl⟩
  · by_cases h1 : (n : Int) ≤ x
    · rw [if_neg (by omega)]
      go_enter Tryd.func37, Tryd.ntmps37
      go_wp2_with fail
      refine HM.out.mono ?_
      rintro e w1 ⟨rfl, rfl⟩
      go_wp2_with fail
      refine HP.out.mono ?_
      rintro e w1 ⟨rfl, rfl⟩
      go_wp2_with fail
      go_ret
      exact ⟨rfl, rfl⟩
    · rw [if_pos (by omega)]
      go_enter Tryd.func37, Tryd.ntmps37
      go_wp2_with fail
      refine HM.out.mono ?_
      rintro e w1 ⟨rfl, rfl⟩
      go_wp2_with fail
      refine HP.out.mono ?_
      rintro e w1 ⟨rfl, rfl⟩
      go_wp2_with fail
      go_ret
      exact ⟨rfl, rfl⟩
def frameAt (fb n i : Nat) : Value := if i < n then .pointer (some ⟨fb, i * 6, none⟩) else .pointer none
def FindRel (w : World) (l : List (Fr × Value)) (x : Int) (i : Value) (wr : World) : Prop := ∃ k : Nat, k ≤ l.length ∧ i = .int .i64 (k : Int) ∧ w = wr ∧ ∀ j (hj : j < l.length), j < k → hasF x l[j].1 = false
theorem pfind_is (h : PAtL w S T p d fb l hand s) (x : Int) :
    Calls Tryd.prog 38 #[.pointer (some ⟨p, 0, none⟩), .int .i64 x] w fun e w' => e = .returned (frameAt fb l.length (findF (l.map (·.1)) x)) ∧ w = w' := by
  obtain ⟨c0, c1, c2, c3⟩ := h.cells
  have H := Lib.hid h
  have h256 := h.n256
  clear h
  go_enter Tryd.func38, Tryd.ntmps38
  go_wp2_with fail
  go_loopw [12] (fun i wr => FindRel w l x i wr) (fun i _ => l.length - (intOf i).toNat)
  case atStart => exact ⟨0, by omega, rfl, rfl, fun j _ hj => by omega⟩
  case round =>
    obtain ⟨k, hk, rfl, rfl, hno⟩ := hrel
    have HN := Lib.hid hno
    clear hno
    by_cases hlt : k < l.length
    · have hkn : (k : Int) < (l.length : Int) := by omega
      obtain ⟨d0, d1, _⟩ := H.out.at hlt
      have HQ : Hid (hasF x l[k].1 = (l[k].1.is && decide (l[k].1.page = x))) := rfl
      generalize l[k].1.is = b at *
      generalize l[k].1.page = y at *
      have HNX : Hid (hasF x l[k].1 = false → ∀ j (hj : j < l.length), j < k + 1 → hasF x l[j].1 = false) := fun hf j hj hjk => by
        rcases Nat.lt_succ_iff_lt_or_eq.1 hjk with h1 | rfl
        · exact HN.out j hj h1
        · exact hf
      cases b
      · have HF := Lib.hid (HNX.out (by rw [HQ.out]; rfl))
        go_wp2_with fail
        go_roundw
        case rel => exact ⟨k + 1, by omega, by go_num, rfl, HF.out⟩
        case measure => simp [intOf]; omega
      · by_cases e : y = x
        · have HF : Hid (findF (l.map (·.1)) x = k) := firstPl_at _ _ k (by simpa using hlt) (fun j hj hjk => by
            have := HN.out j (by simpa using hj) hjk
            simpa using this) (by
            have := HQ.out
            simp [e] at this
            simpa using this)
          go_wp2_with fail
          go_ret
          exact ⟨by rw [HF.out]; unfold frameAt; rw [if_pos hlt]; rfl, rfl⟩
        · have HF := Lib.hid (HNX.out (by rw [HQ.out]; simp [e]))
          go_wp2_with fail
          go_roundw
          case rel => exact ⟨k + 1, by omega, by go_num, rfl, HF.out⟩
          case measure => simp [intOf]; omega
    · obtain rfl : k = l.length := by omega
      have HF : Hid (findF (l.map (·.1)) x = l.length) := by
        have := firstPl_none (hasF x) (l.map (·.1)) (fun j hj => by
          have := HN.out j (by simpa using hj) (by simpa using hj)
          simpa using this)
        rw [List.length_map] at this
        exact this
      go_wp2_with fail
      go_ret
      exact ⟨by rw [HF.out]; unfold frameAt; rw [if_neg (Nat.lt_irrefl _)]; rfl, rfl⟩
theorem pmove_is (h : PAtL w S T p d fb l hand s) :
    Calls Tryd.prog 56 #[.pointer (some ⟨p, 0, none⟩)] w fun e w' => e = .returned (.tuple #[]) ∧ PAtL w' S T p d fb l ((hand + 1) % l.length) s ∧ Trn T w w' := by
  obtain ⟨c0, c1, c2, c3⟩ := h.cells
  have h256 := h.n256
  have h8 := h.n8
  have hhd := h.hd
  have C1 : Hid (w.drew.cell? ⟨p, 1, none⟩ = some (.slice (some ⟨fb, 0, none⟩) l.length l.length)) := c1
  have C2 : Hid (w.drew.cell? ⟨p, 2, none⟩ = some (.int .i64 (hand : Int))) := c2
  have C3 : w.drew.frozen? ⟨p, 2, none⟩ = false := c3
  have HS : Hid (PAtL (w.drew.setCell ⟨p, 2, none⟩ (.int .i64 (((hand + 1) % l.length : Nat) : Int))) S T p d fb l ((hand + 1) % l.length) s) := (h.same (w' := w.drew) (Nat.le_refl _) (fun _ _ => rfl)).setHand _ (Nat.mod_lt _ (by omega))
  have HT : Hid (Trn T w (w.drew.setCell ⟨p, 2, none⟩ (.int .i64 (((hand + 1) % l.length : Nat) : Int)))) := (Trn.refl T w).drew.setCell _ (fun _ => h.tp)
  have hm : ((hand : Int) + 1).tmod (l.length : Int) = (((hand + 1) % l.length : Nat) : Int) := by
    rw [Int.tmod_eq_emod_of_nonneg (by omega), Int.natCast_emod, Int.natCast_add]
    rfl
  have hl0 : l ≠ [] := by rintro rfl; simp at h8
  have hw1 : IntKind.i64.wrap ((hand : Int) + 1) = (hand : Int) + 1 := by rw [IntKind.wrap_i64]; omega
  have hlt := Nat.mod_lt (hand + 1) (show 0 < l.length by omega)
  have hw2 : IntKind.i64.wrap (((hand + 1) % l.length : Nat) : Int) = (((hand + 1) % l.length : Nat) : Int) := by rw [IntKind.wrap_i64]; omega
  clear h c0 c1 c2 c3
  generalize (hand + 1) % l.length = k at *
  go_enter Tryd.func56, Tryd.ntmps56
  refine wp_region_T (R := fun x y => x = y) (by kernel_rfl) (fun _ => rfl) (fun h k => h.trans k) (by kernel_rfl) 14 rfl (by kernel_rfl) (by kernel_rfl) (fun d v c a w h => by cases d <;> exact h)
    [(0, false), (1, false), (2, false), (3, false), (4, false), (5, false), (6, false), (7, false), (8, false), (9, false), (10, false), (11, false), (12, false), (13, false)] rfl (by kernel_rfl) ?_
  simp only [sel, List.getElem?_toArray, List.getElem?_cons_succ, List.getElem?_cons_zero]
  generalize w.drew = wd at *
  iterate 4 (refine schT_take ?_ rfl ?_ ?_; rotate_left; (focus (intro u hu; go_simp <;> rfl)); simp only [Act.put, List.setIfInBounds_toArray, List.set_cons_zero, List.set_cons_succ])
  (refine schT_take ?_ rfl ?_ ?_; rotate_left; (focus (intro u hu; subst hu; have c2 := C2.out; go_simp <;> rfl)); simp only [Act.put, List.setIfInBounds_toArray, List.set_cons_zero, List.set_cons_succ])
  iterate 4 (refine schT_take ?_ rfl ?_ ?_; rotate_left; (focus (intro u hu; go_simp <;> rfl)); simp only [Act.put, List.setIfInBounds_toArray, List.set_cons_zero, List.set_cons_succ])
  (refine schT_take ?_ rfl ?_ ?_; rotate_left; (focus (intro u hu; subst hu; have c1 := C1.out; go_simp <;> rfl)); simp only [Act.put, List.setIfInBounds_toArray, List.set_cons_zero, List.set_cons_succ])
  iterate 4 (refine schT_take ?_ rfl ?_ ?_; rotate_left; (focus (intro u hu; go_simp <;> rfl)); simp only [Act.put, List.setIfInBounds_toArray, List.set_cons_zero, List.set_cons_succ])
  refine schT_nil ?_
  refine schT_last rfl rfl ?_
  have c2 := C2.out
  go_wp2_with fail
  go_end0
  exact ⟨rfl, HS.out, HT.out⟩
end
end Go.Proofs.YtknagdbhhfelnaaDoor
