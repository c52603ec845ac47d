/-
  Package pool: Unpin, Evict, Drop by their contracts. Conditions: none but that the pool lies there; Unpin: its pins are few.
-/
import Derived.Test.YtmfcckmcbmlhmaaPlF
namespace Go.Proofs.Ytmfcckmcbmlhmaa
open Go.RowKit Go.Maps
set_option maxRecDepth 100000

section
variable {w w' : World} {S T : Nat → Prop} {p d fb hand : Nat} {l : List (Fr × Value)} {s : St}
theorem PAt.made {P : PSt} (h : PAt w T p d fb P) : Calls Try.prog 30 #[.pointer (some ⟨p, 0, none⟩)] w fun e w' => e = .returned (.bool true) ∧ w = w' := by
  obtain ⟨S, l, h, _⟩ := h
  exact pmade_is h
set_option maxHeartbeats 1000000 in
theorem punpin_is {P : PSt} (h : PAt w T p d fb P) (x : Int) (hb : (P.fr.getD (findF P.fr x) zeroF).pins < 4611686018427387904) :
    Calls Try.prog 11 #[.pointer (some ⟨p, 0, none⟩), .int .i64 x] w (POut w T p d fb (unpinQ P x)) := by
  have HM := Lib.hid h.made
  have HFD := Lib.hid (h.find x)
  by_cases hfd : findF P.fr x < P.fr.length
  · rw [if_pos hfd] at HFD
    have hq : unpinQ P x = if (P.fr.getD (findF P.fr x) zeroF).pins = 0 then (6, P) else (0, pinsQ P (findF P.fr x) ((P.fr.getD (findF P.fr x) zeroF).pins - 1)) := by unfold unpinQ; rw [if_pos hfd]
    rw [hq]
    have HP0 := Lib.hid h.s0
    have h' := h.s0
    clear h hq
    obtain ⟨S1, l1, h1, hf1⟩ := h'
    generalize findF P.fr x = i at *
    have hil : i < l1.length := by rw [← List.length_map (f := fun y : Fr × Value => y.1), hf1]; exact hfd
    have hg := h1.get hf1 hil
    rw [hg] at hb ⊢
    obtain ⟨f0, f1, f2, f3, f4, f5⟩ := h1.at hil
    have hff := h1.frozen (i * 6 + 2)
    by_cases hz : l1[i].1.pins = 0
    · rw [if_pos hz]
      rw [hz] at f2
      clear hg h1 hf1 f0 f1 f3 f4 f5 hfd hb hff hz hil
      go_enter Try.func11, Try.ntmps11
      go_wp2_with fail
      refine HM.out.mono ?_
      rintro e w1 ⟨rfl, rfl⟩
      go_wp2_with fail
      refine HFD.out.mono ?_
      rintro e w1 ⟨rfl, rfl⟩
      go_wp2_with fail
      go_ret
      exact ⟨rfl, HP0.out, Trn.refl _ _⟩
    · rw [if_neg hz]
      have HP2 : Hid (PAtL (w.setCell ⟨fb, i * 6 + 2, none⟩ (.int .i64 ((l1[i].1.pins - 1 : Nat) : Int))) S1 (more T w w) p d fb (l1.set i ({ l1[i].1 with pins := l1[i].1.pins - 1 }, l1[i].2)) P.hand P.s) := h1.put hil (by omega) _ _ rfl (h1.mem hil).1 (h1.mem hil).2
      have HF2 : Hid ((l1.set i ({ l1[i].1 with pins := l1[i].1.pins - 1 }, l1[i].2)).map (·.1) = (pinsQ P i (l1[i].1.pins - 1)).fr) := by rw [Hid, List.map_set, hf1]; unfold pinsQ; rw [hg]
      have hw : IntKind.i64.wrap ((l1[i].1.pins : Int) - 1) = ((l1[i].1.pins - 1 : Nat) : Int) := by rw [IntKind.wrap_i64]; omega
      have hne := ne_int hz
      have HTF := Lib.hid h1.tf
      generalize (l1.set i ({ l1[i].1 with pins := l1[i].1.pins - 1 }, l1[i].2)) = l2 at *
      clear h1 hf1 f0 f1 f3 f4 f5 hg
      have hcs : ((l1[i].1.pins - 1 : Nat) : Int) = (l1[i].1.pins : Int) - 1 := by omega
      generalize hm : l1[i].1.pins - 1 = m at *
      generalize l1[i].1.pins = n at *
      clear hil hb hz hm hfd
      rw [hcs] at hw
      have HCS := Lib.hid hcs
      clear hcs
      go_enter Try.func11, Try.ntmps11
      go_wp2_with fail
      refine HM.out.mono ?_
      rintro e w1 ⟨rfl, rfl⟩
      go_wp2_with fail
      refine HFD.out.mono ?_
      rintro e w1 ⟨rfl, rfl⟩
      go_wp2_with fail
      go_ret
      have hp2 := HP2.out
      rw [HCS.out] at hp2
      exact ⟨rfl, ⟨S1, l2, by rw [more_size (setCell_size _ _ _)]; exact hp2, HF2.out⟩, (Trn.refl T w).setCell _ (fun h => HTF.out.elim id (fun e => by omega))⟩
  · rw [if_neg hfd] at HFD
    have hq : unpinQ P x = (6, P) := by unfold unpinQ; rw [if_neg hfd]
    rw [hq]
    have HP0 := Lib.hid h.s0
    clear h hq hfd hb
    go_enter Try.func11, Try.ntmps11
    go_wp2_with fail
    refine HM.out.mono ?_
    rintro e w1 ⟨rfl, rfl⟩
    go_wp2_with fail
    refine HFD.out.mono ?_
    rintro e w1 ⟨rfl, rfl⟩
    go_wp2_with fail
    go_ret
    exact ⟨rfl, HP0.out, Trn.refl _ _⟩
set_option maxHeartbeats 1000000 in
theorem pevict_is {P : PSt} (h : PAt w T p d fb P) (x : Int) :
    Calls Try.prog 12 #[.pointer (some ⟨p, 0, none⟩), .int .i64 x] w (POut w T p d fb (evictQ P x)) := by
  have HM := Lib.hid h.made
  have HP0 := Lib.hid h.s0
  have hV := pvacate_is h
  obtain ⟨S1, l1, h1, hf1⟩ := h.s0
  obtain ⟨c0, c1, c2, c3⟩ := h1.cells
  have hl : l1.length = P.fr.length := by rw [← hf1, List.length_map]
  have h256 := h1.n256
  by_cases hx : 0 ≤ x
  · obtain ⟨i, rfl⟩ := Int.eq_ofNat_of_zero_le hx
    by_cases hi : i < P.fr.length
    · have hq : evictQ P (i : Int) = if (P.fr.getD i zeroF).is = true ∧ (P.fr.getD i zeroF).pins = 0 then vacQ P i else (6, P) := by unfold evictQ; rw [if_pos ⟨by omega, by omega⟩, Int.toNat_natCast]
      rw [hq]
      have hil : i < l1.length := by omega
      rw [h1.get hf1 hil]
      obtain ⟨f0, f1, f2, f3, f4, f5⟩ := h1.at hil
      have HV := Lib.hid (hV i hi)
      have hii : (i : Int) < (l1.length : Int) := by omega
      clear hV h1 hf1 c0 c2 c3 f1 f3 f4 f5 hq h hx hi
      cases hy : l1[i].1.is
      · rw [hy] at f0
        rw [if_neg (by simp)]
        clear hy f2
        go_enter Try.func12, Try.ntmps12
        go_wp2_with fail
        refine HM.out.mono ?_
        rintro e w1 ⟨rfl, rfl⟩
        go_wp2_with fail
        go_ret
        exact ⟨rfl, HP0.out, Trn.refl _ _⟩
      · rw [hy] at f0
        by_cases hz : l1[i].1.pins = 0
        · rw [if_pos ⟨rfl, hz⟩]
          rw [hz] at f2
          clear hy hz
          go_enter Try.func12, Try.ntmps12
          go_wp2_with fail
          refine HM.out.mono ?_
          rintro e w1 ⟨rfl, rfl⟩
          go_wp2_with fail
          refine HV.out.mono ?_
          rintro e w1 ⟨rfl, hp1, ht1⟩
          go_wp2_with fail
          go_ret
          exact ⟨rfl, hp1, ht1⟩
        · rw [if_neg (fun h => hz h.2)]
          have hzp : (0 : Int) < (l1[i].1.pins : Int) := by omega
          clear hy
          go_enter Try.func12, Try.ntmps12
          go_wp2_with fail
          refine HM.out.mono ?_
          rintro e w1 ⟨rfl, rfl⟩
          go_wp2_with fail
          go_ret
          exact ⟨rfl, HP0.out, Trn.refl _ _⟩
    · have hq : evictQ P (i : Int) = (2, P) := by unfold evictQ; rw [if_neg (by omega)]
      rw [hq]
      have hii : (l1.length : Int) ≤ (i : Int) := by omega
      clear hV h1 hf1 c0 c2 c3 hq h hx hi
      go_enter Try.func12, Try.ntmps12
      go_wp2_with fail
      refine HM.out.mono ?_
      rintro e w1 ⟨rfl, rfl⟩
      go_wp2_with fail
      go_ret
      exact ⟨rfl, HP0.out, Trn.refl _ _⟩
  · have hq : evictQ P x = (2, P) := by unfold evictQ; rw [if_neg (by omega)]
    rw [hq]
    have hx0 : x < 0 := by omega
    clear hV h1 hf1 c0 c1 c2 c3 hq h hx
    go_enter Try.func12, Try.ntmps12
    go_wp2_with fail
    refine HM.out.mono ?_
    rintro e w1 ⟨rfl, rfl⟩
    go_wp2_with fail
    go_ret
    exact ⟨rfl, HP0.out, Trn.refl _ _⟩
set_option maxHeartbeats 1000000 in
theorem pdrop_is {P : PSt} (h : PAt w T p d fb P) (x : Int) :
    Calls Try.prog 14 #[.pointer (some ⟨p, 0, none⟩), .int .i64 x] w (POut w T p d fb (dropQ P x)) := by
  have HE := Lib.hid (h.err x)
  have HFD := Lib.hid (h.find x)
  have HP0 := Lib.hid h.s0
  by_cases he : errA P.s x = 0
  · rw [he] at HE
    by_cases hfd : findF P.fr x < P.fr.length
    · rw [if_pos hfd] at HFD
      have hq : dropQ P x = (0, ⟨P.fr.set (findF P.fr x) zeroF, P.hand, P.s⟩) := by unfold dropQ; rw [if_pos he, if_pos hfd]
      rw [hq]
      have h' := h.s0
      clear h hq he
      obtain ⟨S1, l1, h1, hf1⟩ := h'
      generalize findF P.fr x = i at *
      have HIL : Hid (i < l1.length) := by rw [Hid, ← List.length_map (f := fun y : Fr × Value => y.1), hf1]; exact hfd
      have HFS : Hid ((l1.set i (zeroF, .slice none 0 0)).map (·.1) = P.fr.set i zeroF) := by rw [Hid, List.map_set, hf1]
      have HTT := Lib.hid h1.tf
      have H1 := Lib.hid h1
      have hz := frZero
      clear h1 hf1 hfd
      generalize hzr : frL zeroF (.slice none 0 0) = zr at *
      have HZR := Lib.hid hzr
      clear hzr
      go_enter Try.func14, Try.ntmps14
      go_wp2_with fail
      refine HE.out.mono ?_
      rintro e w1 ⟨rfl, rfl⟩
      go_wp2_with fail
      refine HFD.out.mono ?_
      rintro e w1 ⟨rfl, rfl⟩
      go_wp2_with (refine wpList_storeF H1.out i HIL.out (zeroF, .slice none 0 0) (Byt.nil _) (fun k hk => by cases hk) rfl _ _ rfl rfl (by rw [HZR.out]; rfl) ?_; intro w2 h2 ht2 hs2)
      go_ret
      exact ⟨rfl, ⟨_, _, by rw [more_size hs2]; exact h2, HFS.out⟩, (Trn.refl T w).trans ht2 (fun k hk e => e ▸ HTT.out.elim id (fun h => by subst e; omega))⟩
    · rw [if_neg hfd] at HFD
      have hq : dropQ P x = (0, P) := by unfold dropQ; rw [if_pos he, if_neg hfd]
      rw [hq]
      clear h hq he hfd
      go_enter Try.func14, Try.ntmps14
      go_wp2_with fail
      refine HE.out.mono ?_
      rintro e w1 ⟨rfl, rfl⟩
      go_wp2_with fail
      refine HFD.out.mono ?_
      rintro e w1 ⟨rfl, rfl⟩
      go_wp2_with fail
      go_ret
      exact ⟨rfl, HP0.out, Trn.refl _ _⟩
  · have hq : dropQ P x = (errA P.s x, P) := by unfold dropQ; rw [if_neg he]
    rw [hq]
    clear h hq
    generalize errA P.s x = er at *
    have hne := ne_int he
    clear he
    generalize hR : ((er, P) : Nat × PSt) = R
    have HR := Lib.hid hR
    clear hR
    go_enter Try.func14, Try.ntmps14
    go_wp2_with fail
    refine HE.out.mono ?_
    rintro e w1 ⟨rfl, rfl⟩
    go_wp2_with fail
    go_ret
    rw [← HR.out]
    exact ⟨rfl, HP0.out, Trn.refl _ _⟩
end
end Go.Proofs.Ytmfcckmcbmlhmaa
