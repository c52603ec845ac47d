/-
  What is read of any pages: none twice, no more than allowed, as many as their bytes need; a page put into a pool. Conditions: none but those named.
-/
import Derived.Test.YtknagdbhhfelnaaDoorCCnO
namespace Go.Proofs.YtknagdbhhfelnaaDoor
open Go.ChangeShapes Go.WideShapes Go.ChangeAt Go.RowKit Go.Maps
set_option maxRecDepth 100000
set_option linter.unusedVariables false

theorem readT_some {has : Nat → List UInt8} {k n : Nat} (hcl : Closed has k n) : ∀ (f : Nat) (pg : List Nat) (b : List UInt8) (x : Nat) (r : List UInt8 × List Nat), readT has k f pg b x = some r → (x = 0 → pg ≠ []) → x < n → pg.Nodup → (x ≠ 0 → x ∉ pg) → (∀ y ∈ pg, y < n) → (x ≠ 0 → b.length = pg.length * 4074) → (x = 0 → needN b.length = pg.length) →
    r.2.Nodup ∧ r.2.length ≤ pg.length + f ∧ r.2 ≠ [] ∧ (∀ y ∈ r.2, y < n) ∧ needN r.1.length = r.2.length := by
  intro f
  induction f with
  | zero =>
    intro pg b x r h h1 h2 h3 h4 h5 h6 h7
    unfold readT at h
    split at h
    · rename_i h0
      cases h
      exact ⟨h3, Nat.le_refl _, h1 h0, h5, h7 h0⟩
    · cases h
  | succ f ih =>
    intro pg b x r h h1 h2 h3 h4 h5 h6 h7
    unfold readT at h
    split at h
    · rename_i h0
      cases h
      exact ⟨h3, Nat.le_add_right _ _, h1 h0, h5, h7 h0⟩
    · rename_i h0
      split at h
      · cases h
      · rename_i nx y ht
        split at h
        · cases h
        · rename_i hin
          obtain ⟨hok, hnx, hy⟩ := told_some ht
          obtain ⟨hs1, _, hs3⟩ := toldOk_size hok
          have hyl : y.length = sizeN (has x) := by rw [hy]; exact hs3
          have hlo := hok.2.2.1
          rw [← hnx] at hlo
          have hb := h6 h0
          have hlen : (pg ++ [x]).length = pg.length + 1 := by simp
          have := ih (pg ++ [x]) (b ++ y) nx r h (fun _ => by simp) (hcl x _ nx y h2 ht) (List.nodup_append.2 ⟨h3, by simp, fun a ha c hc e => by rw [List.mem_singleton.1 hc] at e; exact h4 h0 (e ▸ ha)⟩) (fun _ => hin)
            (fun z hz => by
              rcases List.mem_append.1 hz with hz | hz
              · exact h5 z hz
              · rw [List.mem_singleton.1 hz]; exact h2)
            (fun hne => by
              unfold lenOk at hlo
              rw [if_pos hne] at hlo
              have := of_decide_eq_true hlo
              rw [List.length_append, hlen, hb, hyl]
              omega)
            (fun he => by
              unfold lenOk at hlo
              rw [if_neg (fun h => h he)] at hlo
              rw [List.length_append, hlen, hb, hyl]
              split at hlo
              · cases hlo
              · rename_i hz
                unfold needN
                by_cases hp : 0 < pg.length
                · have : sizeN (has x) ≠ 0 := fun e => hz ⟨hp, e⟩
                  omega
                · have : pg.length = 0 := by omega
                  rw [this]
                  omega)
          rw [hlen] at this
          exact ⟨this.1, by have := this.2.1; omega, this.2.2⟩
theorem read_some {has : Nat → List UInt8} {k n f head : Nat} {b : List UInt8} {ps : List Nat} (hcl : Closed has k n) (h : readT has k f [] [] head = some (b, ps)) (h0 : head ≠ 0) (hn : head < n) : ps.Nodup ∧ ps.length ≤ f ∧ ps ≠ [] ∧ (∀ y ∈ ps, y < n) ∧ needN b.length = ps.length := by
  have := readT_some hcl f [] [] head (b, ps) h (fun e => absurd e h0) hn List.nodup_nil (fun _ => by simp) (by simp) (fun _ => rfl) (fun e => absurd e h0)
  simpa using this
theorem Sane.upd {has : Nat → List UInt8} {n : Nat} (h : Sane has n) (x : Nat) (b : List UInt8) (hb : nextN b < n) : Sane (upd has x b) n := fun y hy => by
  unfold Go.Proofs.YtknagdbhhfelnaaDoor.upd
  split
  · exact .inr hb
  · exact h y hy
/-- A page that is put. -/
theorem cput_any {w : World} {T : Nat → Prop} {p d fb n m : Nat} {has : Nat → List UInt8} (h : PlT w T p d fb n m has) {x : Nat} (hx : x < n) {vb : Value} {pg : List UInt8} (hv : Byt w vb pg) (hl : pg.length = 4096) (hT : ∀ j, vb.ownBlock = some j → ¬ T j ∧ j < w.heap.size) :
    Calls Tryd.prog 18 #[.pointer (some ⟨p, 0, none⟩), .int .i64 (x : Int), vb] w fun e w' => e = .returned (.int .i64 0) ∧ PlOut w T p d fb n m (upd has x pg) w' := by
  obtain ⟨P, hP, ht⟩ := h
  obtain ⟨A, mm, c, rfl, _, _, _⟩ := hv.form
  have hf := put_free ht hx hl
  refine (pput_is hP (x : Int) _ pg hv hT).mono ?_
  rintro e w' ⟨rfl, h1, h2⟩
  rw [hf.1]
  exact ⟨rfl, _, ⟨_, h1, hf.2⟩, fun j hj => hj, h2⟩
/-- The first bytes of a page's body tell the next one. -/
theorem nextN_body (k m : Nat) (t a b : UInt8) : nextN (pageB k m [t, 0, 0, 0, a, b, 7]) = t.toNat := by
  unfold nextN
  rw [pageB_drop]
  unfold padB
  simp [wordN]
end Go.Proofs.YtknagdbhhfelnaaDoor
