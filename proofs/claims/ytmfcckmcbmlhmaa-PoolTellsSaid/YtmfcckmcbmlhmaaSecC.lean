/-
  Package sector's small functions by their contracts: Clone, disk, New, Of, made, Sectors, has, below, fails. Conditions: none but that the disk lies there.
-/
import Derived.Test.YtmfcckmcbmlhmaaSecB
import Derived.Lib.SliceRun
namespace Go.Proofs.Ytmfcckmcbmlhmaa
open Go.RowKit Go.Maps
set_option maxRecDepth 100000

set_option maxHeartbeats 400000 in
theorem cloneb_any (w : World) (v : Value) (l : List UInt8) (hv : Byt w v l) (hlen : l.length ≤ 70368744177664) :
    Calls Try.prog 29 #[v] w (Made w l) := by
  obtain ⟨i0, hi0, hz0, hz1, hz2⟩ := info_parts uinfo
  obtain ⟨A, n, c, rfl, N, hnc, hcm⟩ := hv.form
  have HX := Lib.hid hv
  have HE := Lib.hid (Own.empty w)
  cases A with
  | none =>
    obtain rfl : l = [] := by
      obtain ⟨A', c', e, _, _, h⟩ := hv
      rcases h with h | ⟨b, off, h, _⟩
      · exact h
      · subst h; cases e
    clear hv
    have E1 : ∀ W, (binOp .eql 29 (.slice none n c) (.slice none 0 0)).run Try.prog W = .ok (.bool true) W := fun W => Lib.run_eql_slice_nil W 29 5 none n c 0 0 Try.underlying29
    go_enter Try.func29, Try.ntmps29
    go_wp2_with fail
    go_ret
    exact made_mk (World.ownsRow_nil w _ _ 1) (Below.refl _ _)
  | some ad =>
    clear hv
    have E1 : ∀ W, (binOp .eql 29 (.slice (some ad) n c) (.slice none 0 0)).run Try.prog W = .ok (.bool false) W := fun W => Lib.run_eql_slice_nil W 29 5 (some ad) n c 0 0 Try.underlying29
    go_enter Try.func29, Try.ntmps29
    go_wp2_with (at_builtin; refine wpList_app _ rfl (.tmp 5) (.tmp 6) _ rfl w.heap.size 5 i0 _ Try.underlying29 hi0 hz0 hz1 hz2 rfl _ [] rfl HE.out _ l rfl (HX.out.alloc _) (by simp; omega) (by simp) ?_; intro v1 w1 hown1 hg1 hat1; have hb1 := below_own (below_new w _) (by simp) HE.out hg1)
    go_ret
    exact made_mk (by simpa using hown1) hb1

/-- Block g is a disk's, of these bytes: what 'made', 'has', 'Sectors', 'below' look at. -/
def DObj (w : World) (g ib ic m n : Nat) (vo vf : Value) : Prop := w.heap[g]? = some (.cells #[.slice (some ⟨ib, 0, none⟩) n ic, .map (some m), vo, vf] 70 (0, 0)) ∧ n ≤ ic ∧ ic ≤ 9223372036854775807

theorem made_is (w : World) (g ib ic m n : Nat) (vo vf : Value) (h : DObj w g ib ic m n vo vf) (hn : 0 < n) :
    Calls Try.prog 37 #[.pointer (some ⟨g, 0, none⟩)] w fun e w' => e = .returned (.bool true) ∧ w = w' := by
  obtain ⟨c0, c1, c2, c3, _, _, _⟩ := obj_cells h.1
  obtain ⟨_, h1, h2⟩ := h
  have hn' : (0 : Int) < (n : Int) := by omega
  go_enter Try.func37, Try.ntmps37
  go_wp2
  go_ret
  exact ⟨rfl, rfl⟩
theorem made_nil (w : World) :
    Calls Try.prog 37 #[.pointer none] w fun e w' => e = .returned (.bool false) ∧ w = w' := by
  go_enter Try.func37, Try.ntmps37
  go_wp2
  go_ret
  exact ⟨rfl, rfl⟩
theorem sectors_is (w : World) (g ib ic m n : Nat) (vo vf : Value) (h : DObj w g ib ic m n vo vf) (hn : 0 < n) :
    Calls Try.prog 25 #[.pointer (some ⟨g, 0, none⟩)] w fun e w' => e = .returned (.int .i64 ((n / 512 : Nat) : Int)) ∧ w = w' := by
  obtain ⟨c0, c1, c2, c3, _, _, _⟩ := obj_cells h.1
  have H := Lib.hid h
  obtain ⟨_, h1, h2⟩ := h
  go_enter Try.func25, Try.ntmps25
  go_wp2_with fail
  refine (made_is _ g ib ic m n vo vf H.out hn).mono ?_
  rintro e w1 ⟨rfl, rfl⟩
  go_wp2_with fail
  go_ret
  exact ⟨ret_int (by omega), rfl⟩
theorem sectors_nil (w : World) :
    Calls Try.prog 25 #[.pointer none] w fun e w' => e = .returned (.int .i64 0) ∧ w = w' := by
  go_enter Try.func25, Try.ntmps25
  go_wp2_with fail
  refine (made_nil _).mono ?_
  rintro e w1 ⟨rfl, rfl⟩
  go_wp2_with fail
  go_ret
  exact ⟨rfl, rfl⟩
theorem has_is (w : World) (g ib ic m n : Nat) (vo vf : Value) (x : Int) (h : DObj w g ib ic m n vo vf) (hn : 0 < n) :
    Calls Try.prog 53 #[.pointer (some ⟨g, 0, none⟩), .int .i64 x] w fun e w' => e = .returned (.bool (decide (0 ≤ x ∧ x < ((n / 512 : Nat) : Int)))) ∧ w = w' := by
  have H := Lib.hid (sectors_is w g ib ic m n vo vf h hn)
  clear h
  generalize n / 512 = k at *
  by_cases h0 : 0 ≤ x
  · by_cases h1 : x < (k : Int)
    · have hd : decide (0 ≤ x ∧ x < (k : Int)) = true := by simp [h0, h1]
      rw [hd]
      clear hd
      go_enter Try.func53, Try.ntmps53
      go_wp2_with fail
      refine H.out.mono ?_
      rintro e w1 ⟨rfl, rfl⟩
      go_wp2_with fail
      go_ret
      exact ⟨rfl, rfl⟩
    · have hd : decide (0 ≤ x ∧ x < (k : Int)) = false := by simp [h1]
      have HD : Hid (decide (x < (k : Int)) = false) := by rw [Hid]; simp; omega
      rw [hd]
      clear hd
      go_enter Try.func53, Try.ntmps53
      go_wp2_with fail
      refine H.out.mono ?_
      rintro e w1 ⟨rfl, rfl⟩
      go_wp2_with fail
      go_ret
      exact ⟨show Ending.returned (.bool (decide (x < (k : Int)))) = _ by rw [HD.out], rfl⟩
  · have hd : decide (0 ≤ x ∧ x < (k : Int)) = false := by simp [h0]
    rw [hd]
    clear hd
    go_enter Try.func53, Try.ntmps53
    go_wp2_with fail
    go_ret
    exact ⟨rfl, rfl⟩
theorem below_is (w : World) (g ib ic m n k : Nat) (vo vf : Value) (h : DObj w g ib ic m n vo vf) (hk : 512 * (k + 1) ≤ n) :
    Calls Try.prog 51 #[.pointer (some ⟨g, 0, none⟩), .int .i64 (k : Int)] w fun e w' => e = .returned (.slice (some ⟨ib, 512 * k, none⟩) 512 (ic - 512 * k)) ∧ w = w' := by
  obtain ⟨c0, c1, c2, c3, _, _, _⟩ := obj_cells h.1
  obtain ⟨_, h1, h2⟩ := h
  have R : ∀ W, (Instr.slice 29 (.slice (some ⟨ib, 0, none⟩) n ic) (some (.int .i64 ((k : Int) * 512))) (some (.int .i64 (((k : Int) + 1) * 512))) none).run Try.prog W = .ok (.slice (some ⟨ib, 512 * k, none⟩) 512 (ic - 512 * k)) W := by
    intro W
    rw [run_slice_lh W 29 _ n ic elemByte .i64 .i64 _ _ (by omega) (by omega) (by omega), sizeByte]
    have e1 : ((k : Int) * 512).toNat = 512 * k := by omega
    have e2 : (((k : Int) + 1) * 512).toNat = 512 * k + 512 := by omega
    simp only [Result.andThen, sliced, e1, e2]
    rw [if_neg (by omega)]
    simp [plainAdd]
  go_enter Try.func51, Try.ntmps51
  go_wp2_with fail
  go_ret
  exact ⟨rfl, rfl⟩
end Go.Proofs.Ytmfcckmcbmlhmaa
