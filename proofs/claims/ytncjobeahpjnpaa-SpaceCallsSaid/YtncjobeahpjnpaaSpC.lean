/-
  Package space's small functions by their contracts: isSize, bitsSize, Check, Same, with. Conditions: at most 2^46 bools.
-/
import Derived.Test.YtncjobeahpjnpaaSpB
namespace Go.Proofs.Ytncjobeahpjnpaa
open Go.RowKit Go.Maps
set_option maxRecDepth 100000

theorem Rowz.upto {w : World} {A : Option Addr} {n c k : Nat} {vs : List Value} (h : Rowz w (.slice A n c) vs) (hk : k ≤ n) : Rowz w (.slice A k c) (vs.take k) := by
  obtain ⟨A', c', hv, h1, h2, h3⟩ := h
  injection hv with e1 e2 e3
  subst e1 e2 e3
  have hlen : (vs.take k).length = k := by rw [List.length_take]; omega
  refine ⟨A, c, by rw [hlen], by omega, h2, ?_⟩
  rcases h3 with rfl | ⟨b, off, rfl, hb, hc⟩
  · exact .inl (by simp)
  · refine .inr ⟨b, off, rfl, hb, fun j hj => ?_⟩
    rw [hc j (by omega), List.getElem_take]
theorem Boos.upto {w : World} {A : Option Addr} {n c k : Nat} {l : List Bool} (h : Boos w (.slice A n c) l) (hk : k ≤ n) : Boos w (.slice A k c) (l.take k) := by
  have := Rowz.upto h hk
  unfold Boos booC
  rw [List.map_take]
  exact this

def szB (p : Int) : Bool := decide (8 ≤ p ∧ p ≤ 4096)
theorem issize_any (p : Int) (w : World) : Calls Try.prog 32 #[.int .i64 p] w fun e w' => e = .returned (.bool (szB p)) ∧ w = w' := by
  unfold szB
  generalize hd : decide (8 ≤ p ∧ p ≤ 4096) = d
  have HD := Lib.hid hd
  clear hd
  go_enter Try.func32, Try.ntmps32
  go_wp2
  all_goals
    go_ret
    exact ⟨by rw [← HD.out]; simp; omega, rfl⟩
theorem bitssize_any (p : Int) (w : World) (h0 : 0 ≤ p) (h1 : p ≤ 4096) : Calls Try.prog 41 #[.int .i64 p] w fun e w' => e = .returned (.int .i64 ((spM p.toNat : Nat) : Int)) ∧ w = w' := by
  obtain ⟨m, rfl⟩ := Int.eq_ofNat_of_zero_le h0
  rw [Int.toNat_natCast]
  generalize hd : spM m = d
  have HD := Lib.hid hd
  have HM : Hid ((m : Int) ≤ 4096) := h1
  clear hd h0 h1
  go_enter Try.func41, Try.ntmps41
  go_wp2
  go_ret
  have := HM.out
  refine ⟨ret_int ?_, rfl⟩
  have e : wrap64 ((m : Int) + 7) = ((m + 7 : Nat) : Int) := by unfold wrap64; omega
  have e2 : (((m + 7 : Nat) : Int)).tdiv 8 = (((m + 7) / 8 : Nat) : Int) := (Int.ofNat_tdiv (m + 7) 8).symm
  rw [e, e2, ← HD.out]
  unfold spM wrap64
  omega

set_option maxHeartbeats 1000000 in
theorem spcheck_any (w : World) (p : Int) (v : Value) (l : List Bool) (hv : Boos w v l) (hlen : l.length ≤ 70368744177664) :
    Calls Try.prog 15 #[.agg #[.int .i64 p, v]] w fun e w' => e = .returned (.int .i64 (if spOk p l then 0 else 2)) ∧ Below w.heap.size w w' := by
  obtain ⟨A, n, c, rfl, N, hnc, hcm⟩ := hv.form
  have HV := Lib.hid hv
  have HS := Lib.hid (issize_any p)
  by_cases hs : szB p = true
  · by_cases hn : (n : Int) = p
    · subst hn
      have h8 : 8 ≤ n ∧ n ≤ 4096 := by unfold szB at hs; simp at hs; omega
      have HC := Lib.hid fun W (h : Below w.heap.size w W) => boocontains_any W (.slice A 2 c) (l.take 2) false ((hv.below h).upto (by omega)) (by rw [List.length_take]; omega)
      have HR : Hid ((if spOk (n : Int) l then (0 : Int) else 2) = if decide (false ∈ l.take 2) = true then 2 else 0) := by
        have hl : l.length = n := N.out.symm
        have e : false ∈ l.take 2 ↔ ¬ spOk (n : Int) l := by
          match l, hl with
          | a :: b :: r, hl => cases a <;> cases b <;> simp [spOk] <;> simp at hl <;> omega
          | [a], hl => simp at hl; omega
          | [], hl => simp at hl; omega
        show _ = _
        by_cases h : spOk (n : Int) l
        · rw [if_pos h, if_neg (by simpa using fun hm => e.1 hm h)]
        · rw [if_neg h, if_pos (by simpa using e.2 h)]
      generalize (if spOk (n : Int) l then (0 : Int) else 2) = r at *
      generalize decide (false ∈ l.take 2) = d at *
      rw [hs] at HS
      obtain ⟨h8a, h8b⟩ := h8
      clear hv hs hlen
      go_enter Try.func15, Try.ntmps15
      go_wp2_with fail
      refine (HS.out _).mono ?_
      rintro e w1 ⟨rfl, rfl⟩
      go_wp2_with fail
      refine (HC.out _ (below_new w _)).mono ?_
      rintro e w1 ⟨rfl, rfl⟩
      cases d
      all_goals
        go_wp2_with fail
        go_ret
        exact ⟨by rw [HR.out]; rfl, below_new w _⟩
    · have hn' : ((n : Int) == p) = false := by simpa using hn
      have hr : ¬ spOk p l := fun h => hn (by rw [← h.2.2.1, N.out])
      rw [if_neg hr]
      rw [hs] at HS
      clear hv hs hlen hr
      go_enter Try.func15, Try.ntmps15
      go_wp2_with fail
      refine (HS.out _).mono ?_
      rintro e w1 ⟨rfl, rfl⟩
      go_wp2_with fail
      go_ret
      exact ⟨rfl, below_new w _⟩
  · have hr : ¬ spOk p l := fun h => hs (by unfold szB; simp; exact ⟨h.1, h.2.1⟩)
    rw [if_neg hr]
    have hs' : szB p = false := by simpa using hs
    rw [hs'] at HS
    clear hv hs hlen hr hs'
    go_enter Try.func15, Try.ntmps15
    go_wp2_with fail
    refine (HS.out _).mono ?_
    rintro e w1 ⟨rfl, rfl⟩
    go_wp2_with fail
    go_ret
    exact ⟨rfl, below_new w _⟩

set_option maxHeartbeats 1000000 in
theorem spsame_any (w : World) (p q : Int) (v x : Value) (l m : List Bool) (hv : Boos w v l) (hx : Boos w x m) :
    Calls Try.prog 14 #[.agg #[.int .i64 p, v], .agg #[.int .i64 q, x]] w fun e w' => e = .returned (.bool (decide (p = q ∧ l = m))) ∧ Below w.heap.size w w' := by
  obtain ⟨A, n, c, rfl, N, hnc, hcm⟩ := hv.form
  obtain ⟨A', n', c', rfl, N', hnc', hcm'⟩ := hx.form
  have HE := Lib.hid fun W (h : Below w.heap.size w W) => booequal_any W _ _ l m (hv.below h) (hx.below h)
  by_cases hp : p = q
  · subst hp
    have hd : decide (p = p ∧ l = m) = decide (l = m) := by simp
    rw [hd]
    generalize decide (l = m) = d at *
    clear hd hv hx
    go_enter Try.func14, Try.ntmps14
    go_wp2_with fail
    refine (HE.out _ ((below_new w _).trans ((below_new _ _).mono (by simp)))).mono ?_
    rintro e w1 ⟨rfl, hb1⟩
    go_wp2_with fail
    go_ret
    exact ⟨rfl, ((below_new w _).trans ((below_new _ _).mono (by simp))).trans (hb1.mono (by simp; omega))⟩
  · have hd : decide (p = q ∧ l = m) = false := by simp [hp]
    rw [hd]
    have hp' : (p == q) = false := by simpa using hp
    clear hd hp hv hx
    go_enter Try.func14, Try.ntmps14
    go_wp2_with fail
    go_ret
    exact ⟨rfl, (below_new w _).trans ((below_new _ _).mono (by simp))⟩
end Go.Proofs.Ytncjobeahpjnpaa
