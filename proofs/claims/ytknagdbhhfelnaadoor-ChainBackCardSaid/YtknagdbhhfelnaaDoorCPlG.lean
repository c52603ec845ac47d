/-
  Package pool: Unpin, Evict, Drop by their contracts. Conditions: none but that the pool lies there; Unpin: its pins are few.
-/
import Derived.Test.YtknagdbhhfelnaaDoorCPlF
namespace Go.Proofs.YtknagdbhhfelnaaDoor
open Go.RowKit Go.Maps
set_option maxRecDepth 100000

section
variable {w w' : World} {S T : Nat → Prop} {p d fb hand : Nat} {l : List (Fr × Value)} {s : St}
theorem PAt.made {P : PSt} (h : PAt w T p d fb P) : Calls Tryd.prog 33 #[.pointer (some ⟨p, 0, none⟩)] w fun e w' => e = .returned (.bool true) ∧ w = w' := by
  obtain ⟨S, l, h, _⟩ := h
  exact pmade_is h
set_option maxHeartbeats 1000000 in
theorem pevict_is {P : PSt} (h : PAt w T p d fb P) (x : Int) :
    Calls Tryd.prog 15 #[.pointer (some ⟨p, 0, none⟩), .int .i64 x] w (POut w T p d fb (evictQ P x)) := by
  have HM := Lib.hid h.made
  have HP0 := Lib.hid h.s0
  have hV := pvacate_is h
  obtain ⟨S1, l1, h1, hf1⟩ := h.s0
  obtain ⟨c0, c1, c2, c3⟩ := h1.cells
  have hl : l1.length = P.fr.length := by rw [← hf1, List.length_map]
  have h256 := h1.n256
  by_cases hx : 0 ≤ x
  · obtain ⟨i, rfl⟩ := Int.eq_ofNat_of_zero_le hx
    by_cases hi : i < P.fr.length
    · have hq : evictQ P (i : Int) = if (P.fr.getD i zeroF).is = true ∧ (P.fr.getD i zeroF).pins = 0 then vacQ P i else (6, P) := by unfold evictQ; rw [if_pos ⟨by omega, by omega⟩, Int.toNat_natCast]
      rw [hq]
      have hil : i < l1.length := by omega
      rw [h1.get hf1 hil]
      obtain ⟨f0, f1, f2, f3, f4, f5⟩ := h1.at hil
      have HV := Lib.hid (hV i hi)
      have hii : (i : Int) < (l1.length : Int) := by omega
      clear hV h1 hf1 c0 c2 c3 f1 f3 f4 f5 hq h hx hi
      cases hy : l1[i].1.is
      · rw [hy] at f0
        rw [if_neg (by simp)]
        clear hy f2
        go_enter Tryd.func15, Tryd.ntmps15
        go_wp2_with fail
        refine HM.out.mono ?_
        rintro e w1 ⟨rfl, rfl⟩
        go_wp2_with fail
        go_ret
        exact ⟨rfl, HP0.out, Trn.refl _ _⟩
      · rw [hy] at f0
        by_cases hz : l1[i].1.pins = 0
        · rw [if_pos ⟨rfl, hz⟩]
          rw [hz] at f2
          clear hy hz
          go_enter Tryd.func15, Tryd.ntmps15
          go_wp2_with fail
          refine HM.out.mono ?_
          rintro e w1 ⟨rfl, rfl⟩
          go_wp2_with fail
          refine HV.out.mono ?_
          rintro e w1 ⟨rfl, hp1, ht1⟩
          go_wp2_with fail
          go_ret
          exact ⟨rfl, hp1, ht1⟩
        · rw [if_neg (fun h => hz h.2)]
          have hzp : (0 : Int) < (l1[i].1.pins : Int) := by omega
          clear hy
          go_enter Tryd.func15, Tryd.ntmps15
          go_wp2_with fail
          refine HM.out.mono ?_
          rintro e w1 ⟨rfl, rfl⟩
          go_wp2_with fail
          go_ret
          exact ⟨rfl, HP0.out, Trn.refl _ _⟩
    · have hq : evictQ P (i : Int) = (2, P) := by unfold evictQ; rw [if_neg (by omega)]
      rw [hq]
      have hii : (l1.length : Int) ≤ (i : Int) := by omega
      clear hV h1 hf1 c0 c2 c3 hq h hx hi
      go_enter Tryd.func15, Tryd.ntmps15
      go_wp2_with fail
      refine HM.out.mono ?_
      rintro e w1 ⟨rfl, rfl⟩
      go_wp2_with fail
      go_ret
      exact ⟨rfl, HP0.out, Trn.refl _ _⟩
  · have hq : evictQ P x = (2, P) := by unfold evictQ; rw [if_neg (by omega)]
    rw [hq]
    have hx0 : x < 0 := by omega
    clear hV h1 hf1 c0 c1 c2 c3 hq h hx
    go_enter Tryd.func15, Tryd.ntmps15
    go_wp2_with fail
    refine HM.out.mono ?_
    rintro e w1 ⟨rfl, rfl⟩
    go_wp2_with fail
    go_ret
    exact ⟨rfl, HP0.out, Trn.refl _ _⟩
end
end Go.Proofs.YtknagdbhhfelnaaDoor
