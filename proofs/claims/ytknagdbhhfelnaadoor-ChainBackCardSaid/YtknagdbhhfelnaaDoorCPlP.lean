/-
  Pools, plain: while no fault is to come and no page is pinned, there is always room: Get tells the page, Put takes it. Conditions: no fault, no pins.
-/
import Derived.Test.YtknagdbhhfelnaaDoorCPlK
namespace Go.Proofs.YtknagdbhhfelnaaDoor
open Go.RowKit Go.Maps
set_option maxRecDepth 100000

section
variable {n m : Nat} {has : Nat → List UInt8} {P : PSt}
theorem clock_room : ∀ (k d : Nat) (P : PSt), TInv n m has (fun _ => 0) P → d < k → (d = m ∨ (P.fr.getD ((P.hand + d) % m) zeroF).used = false) → (clockQ k P).1 = 0
  | 0, d, P, _, hd, _ => absurd hd (Nat.not_lt_zero d)
  | k + 1, d, P, h, hd, ho => by
    have hil : P.hand < P.fr.length := by rw [h.len]; exact h.hd
    have hp0 : (P.fr.getD P.hand zeroF).pins = 0 := by
      cases e : (P.fr.getD P.hand zeroF).is
      · rw [h.emp _ h.hd e]; rfl
      · obtain ⟨x, _, _, _, hp, _⟩ := h.frs _ h.hd e
        exact hp
    have hm0 : 0 < m := Nat.lt_of_le_of_lt (Nat.zero_le _) h.hd
    unfold clockQ
    rw [if_neg (by omega)]
    by_cases hu : (P.fr.getD P.hand zeroF).used = true
    · rw [if_pos hu]
      have his : (P.fr.getD P.hand zeroF).is = true := by
        cases e : (P.fr.getD P.hand zeroF).is
        · have := h.emp _ h.hd e
          rw [this] at hu; cases hu
        · rfl
      obtain ⟨x, hx, hpg, hb, hp, hdd⟩ := h.frs _ h.hd his
      have h1 : TInv n m has (fun _ => 0) (tiredQ P) := h.same P.hand x h.hd _ has (fun _ => 0) his hpg his hpg hb hp hdd (fun _ _ => ⟨rfl, rfl⟩) h.hl
      have hg : ∀ j, ((tiredQ P).fr.getD j zeroF) = if j = P.hand then { P.fr.getD P.hand zeroF with used := false } else P.fr.getD j zeroF := fun j => getD_set _ _ _ _ _ hil
      have htl : (tiredQ P).fr.length = P.fr.length := by simp [tiredQ]
      have h2 : TInv n m has (fun _ => 0) (stepH (tiredQ P)) := h1.turn _ (by rw [htl, h.len]; exact Nat.mod_lt _ hm0)
      have hd0 : d ≠ 0 := by
        rintro rfl
        rcases ho with e | e
        · omega
        · rw [Nat.add_zero, Nat.mod_eq_of_lt h.hd, hu] at e; cases e
      have hh : ((stepH (tiredQ P)).hand + (d - 1)) % m = (P.hand + d) % m := by
        show ((P.hand + 1) % (tiredQ P).fr.length + (d - 1)) % m = _
        rw [htl, h.len, Nat.mod_add_mod]
        congr 1
        omega
      refine clock_room k (d - 1) _ h2 (by omega) (.inr ?_)
      rw [hh]
      show ((tiredQ P).fr.getD _ zeroF).used = false
      rw [hg]
      by_cases hji : (P.hand + d) % m = P.hand
      · rw [if_pos hji]
      · rw [if_neg hji]
        rcases ho with e | e
        · subst e
          rw [Nat.add_mod_right, Nat.mod_eq_of_lt h.hd] at hji
          exact absurd rfl hji
        · exact e
    · rw [if_neg hu]
      rw [if_pos (vac_t h P.hand h.hd hp0).1]
theorem room_free (h : TInv n m has (fun _ => 0) P) : (roomQ P).1 = 0 := by
  unfold roomQ
  by_cases he : emptyF P.fr < P.fr.length
  · rw [if_pos he]
  · rw [if_neg he]
    exact clock_room _ m P h (by rw [h.len]; have := h.hd; omega) (.inl rfl)
theorem get_free (h : TInv n m has (fun _ => 0) P) {x : Nat} (hx : x < n) : (getQ P x).1 = has x ∧ (getQ P x).2.1 = 0 ∧ TInv n m has (fun _ => 0) (getQ P x).2.2 := by
  obtain ⟨a, b⟩ := get_t h hx
  rcases b with b | b
  · exact ⟨b.2, b.1, a⟩
  · exfalso
    have hb := b.1
    unfold getQ at hb
    by_cases h0 : (fetchQ P x).1 = 0
    · rw [if_pos h0] at hb; cases hb
    · rw [if_neg h0] at hb
      refine h0 ?_
      unfold fetchQ
      rw [if_pos (err_t h hx)]
      split
      · rfl
      · rename_i hf
        obtain ⟨c, _, d, e⟩ := room_t h
        have hno := e x ((find_t h (x : Int)).2 hf)
        have hr := room_free h
        obtain ⟨ci, cz⟩ := d hr
        have hld := loadP_holds (n := x) c.F (by rw [c.sec]; omega) (c.hl x) (c.out x hx hno).1
        generalize roomQ P = r at *
        obtain ⟨er, i, Q⟩ := r
        simp only at hr hld
        subst hr
        unfold intoQ
        simp only [hld, if_true]
theorem put_free (h : TInv n m has (fun _ => 0) P) {x : Nat} (hx : x < n) {b : List UInt8} (hb : b.length = 4096) : (putQ P x b).1 = 0 ∧ TInv n m (upd has x b) (fun _ => 0) (putQ P x b).2 := by
  rcases put_t h hx hb with c | c
  · exact c
  · exfalso
    have hc := c.1
    unfold putQ at hc
    rw [if_pos (err_t h hx), if_pos hb] at hc
    split at hc
    · cases hc
    · rw [if_pos (room_free h)] at hc
      cases hc
end
end Go.Proofs.YtknagdbhhfelnaaDoor
