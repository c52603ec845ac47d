/-
  tallymanref01's reader by contracts: New, Number, Upto, Err, End, whatever its state. Conditions: the bytes are fewer than 2^46 (New: at most 10,000).
-/
import Derived.Test.YthakkaffjnkhgaaRd1
import Derived.Test.YthakkaffjnkhgaaTbH
namespace Go.Proofs.Ythakkaffjnkhgaa
open Go.RowKit
set_option maxRecDepth 100000
set_option linter.unusedVariables false
set_option linter.unusedSimpArgs false

/-- The document's reader stands at these bytes, with this error; the bytes lie below its block. -/
def RRe (w : World) (g : Nat) (l : List UInt8) (e : Nat) : Prop :=
  ∃ A c, w.heap[g]? = some (.cells #[.slice A l.length c, .int .i64 (e : Int)] 76 (0, 0)) ∧ Byt w (.slice A l.length c) l ∧ ∀ w', Below g w w' → Byt w' (.slice A l.length c) l
theorem RRe.lt {w : World} {g e : Nat} {l : List UInt8} (h : RRe w g l e) : g < w.heap.size := by
  obtain ⟨A, c, h1, _⟩ := h
  exact (Array.getElem?_eq_some_iff.1 h1).1
theorem RRe.keepG {w w' : World} {g e : Nat} {l : List UInt8} (h : RRe w g l e) (hb : Below g w w') (hg : w'.heap[g]? = w.heap[g]?) : RRe w' g l e := by
  obtain ⟨A, c, h1, h2, h3⟩ := h
  exact ⟨A, c, hg.trans h1, h3 _ hb, fun w'' h => h3 _ (hb.trans h)⟩
theorem RRe.below {w w' : World} {g e : Nat} {l : List UInt8} (h : RRe w g l e) (hb : Below w.heap.size w w') : RRe w' g l e :=
  h.keepG (hb.mono (Nat.le_of_lt h.lt)) (hb.block g h.lt)
theorem RRe.setErr {w : World} {g e : Nat} {l : List UInt8} (h : RRe w g l e) (x : Nat) : RRe (w.setCell ⟨g, 1, none⟩ (.int .i64 (x : Int))) g l x := by
  have hb : Below g w (w.setCell ⟨g, 1, none⟩ (.int .i64 (x : Int))) := (Below.refl _ _).setCell (p := ⟨g, 1, none⟩) (Nat.le_refl _) _
  obtain ⟨A, c, h1, h2, h3⟩ := h
  refine ⟨A, c, ?_, h3 _ hb, fun w'' h => h3 _ (hb.trans h)⟩
  simp [World.setCell, Array.getElem?_modify, h1]
theorem RRe.setRest {w : World} {g e : Nat} {l m : List UInt8} {A : Option Addr} {c : Nat} (h : RRe w g l e) (hm : ∀ w', Below g w w' → Byt w' (.slice A m.length c) m) : RRe (w.setCell ⟨g, 0, none⟩ (.slice A m.length c)) g m e := by
  have hb : Below g w (w.setCell ⟨g, 0, none⟩ (.slice A m.length c)) := (Below.refl _ _).setCell (p := ⟨g, 0, none⟩) (Nat.le_refl _) _
  obtain ⟨A', c', h1, h2, h3⟩ := h
  refine ⟨A, c, ?_, hm _ hb, fun w'' h => hm _ (hb.trans h)⟩
  simp [World.setCell, Array.getElem?_modify, h1]
theorem RRe.cells {w : World} {g e : Nat} {l : List UInt8} (h : RRe w g l e) :
    ∃ A c, w.cell? ⟨g, 0, none⟩ = some (.slice A l.length c) ∧ w.cell? ⟨g, 1, none⟩ = some (.int .i64 (e : Int)) ∧ w.frozen? ⟨g, 0, none⟩ = false ∧ w.frozen? ⟨g, 1, none⟩ = false ∧ Byt w (.slice A l.length c) l ∧ l.length ≤ c ∧ c ≤ 9223372036854775807 ∧ ∀ w', Below g w w' → Byt w' (.slice A l.length c) l := by
  obtain ⟨A, c, h1, h2, hB⟩ := h
  have h3 := h2
  obtain ⟨A', c', hv, h4, h5, _⟩ := h3
  injection hv with e1 e2 e3
  subst e1 e3
  unfold maxLen at h5
  exact ⟨A, c, by rw [cell_of_row _ _ _ _ _ _ h1]; rfl, by rw [cell_of_row _ _ _ _ _ _ h1]; rfl, by simp [World.frozen?, h1], by simp [World.frozen?, h1], h2, h4, by omega, hB⟩
theorem rr_new (w : World) (v : Value) (l : List UInt8) (hv : Byt w v l) (hlen : l.length ≤ 10000) :
    Calls Try.prog 43 #[v] w fun e w' => ∃ g, e = .returned (.pointer (some ⟨g, 0, none⟩)) ∧ w.heap.size ≤ g ∧ RRe w' g l 0 ∧ Below w.heap.size w w' := by
  obtain ⟨i0, hi0, hz0, hz1, hz2⟩ := info_parts uinfo
  have HV := Lib.hid hv
  have HE := Lib.hid (Own.empty w)
  clear hv
  go_enter Try.func43, Try.ntmps43
  go_wp2_with (at_builtin; refine wpList_app _ rfl (.tmp 3) (.tmp 4) _ rfl w.heap.size 5 i0 _ Try.underlying30 hi0 hz0 hz1 hz2 rfl _ [] rfl HE.out _ l rfl (HV.out.alloc _) (by simp; omega) (by simp) ?_; intro v1 w1 hown1 hg1 hat1; have hb1 := below_own (below_new w _) (by simp) HE.out hg1; rw [List.nil_append] at hown1; obtain ⟨A1, n1, c1, rfl, N1, hnc1, hcm1⟩ := hown1.byt.form)
  go_ret
  have hn := N1.out
  subst hn
  exact ⟨w1.heap.size, rfl, hb1.size, ⟨A1, c1, heap_alloc_new w1 _, hown1.byt.alloc _, fun w' h => hown1.byt.below ((below_new w1 _).trans h)⟩, hb1.alloc hb1.size _⟩
/-- What a call of the document's reader leaves. -/
def RTold (w : World) (g : Nat) (k : IntKind) (n : Nat) (l : List UInt8) (e : Nat) (x : Ending) (w' : World) : Prop :=
  x = .returned (.int k (n : Int)) ∧ RRe w' g l e ∧ w.grownBy w' (some g)
theorem rr_err (w : World) (g e : Nat) (l : List UInt8) (hr : RRe w g l e) :
    Calls Try.prog 45 #[.pointer (some ⟨g, 0, none⟩)] w fun x w' => x = .returned (.int .i64 (e : Int)) ∧ w = w' := by
  obtain ⟨A, c, c0, c1, f0, f1, hb, hlc, hcm, hBB⟩ := hr.cells
  clear hr hb hBB
  go_enter Try.func45, Try.ntmps45
  go_wp2_with fail
  go_ret
  exact ⟨rfl, rfl⟩
set_option maxHeartbeats 1000000 in
theorem rr_end (w : World) (g e : Nat) (l : List UInt8) (hr : RRe w g l e) :
    Calls Try.prog 46 #[.pointer (some ⟨g, 0, none⟩)] w (RTold w g .i64 (endZ l e) l (endZ l e)) := by
  obtain ⟨A, c, c0, c1, f0, f1, hb, hlc, hcm, hBB⟩ := hr.cells
  have HR := Lib.hid hr
  clear hr hb hBB
  unfold endZ
  by_cases he : e ≠ 0
  · rw [if_pos he]
    have he' : ((e : Int) == 0) = false := by simp; exact he
    clear he
    go_enter Try.func46, Try.ntmps46
    go_wp2_with fail
    go_ret
    exact ⟨rfl, HR.out, grown_refl _ _⟩
  · rw [if_neg he]
    obtain rfl : e = 0 := by omega
    by_cases hl : l = []
    · subst hl
      rw [if_pos rfl]
      clear he
      go_enter Try.func46, Try.ntmps46
      go_wp2_with fail
      go_ret
      exact ⟨rfl, HR.out, grown_refl _ _⟩
    · rw [if_neg hl]
      have hll : (0 : Int) < (l.length : Int) := by have := List.length_pos_iff.2 hl; omega
      have HE := Lib.hid (HR.out.setErr 4)
      generalize l.length = n at *
      clear he hl
      go_enter Try.func46, Try.ntmps46
      go_wp2_with fail
      go_ret
      exact ⟨rfl, HE.out, grown_set _ _ _ _⟩
theorem sum_wrap (k acc x : Nat) (hx : x < 256) (ha : acc < 2 ^ (7 * k)) (hk : k ≤ 9) (h9 : k = 9 → x ≤ 1) : IntKind.u64.wrap ((acc : Int) + IntKind.u64.wrap ((x : Int) % 128 * 2 ^ (7 * k))) = ((acc + x % 128 * 2 ^ (7 * k) : Nat) : Int) := by
  have h := (step_or k acc x hx ha hk h9).2
  have h3 : (x : Int) % 128 * 2 ^ (7 * k) = ((x % 128 * 2 ^ (7 * k) : Nat) : Int) := by push_cast; rfl
  rw [h3]
  generalize x % 128 * 2 ^ (7 * k) = q at *
  have h4 : IntKind.u64.wrap (q : Int) = (q : Int) := by rw [IntKind.wrap_u64]; omega
  rw [h4, IntKind.wrap_u64]
  omega
theorem sum_step (k acc x : Nat) (hx : x < 256) (ha : acc < 2 ^ (7 * k)) (hk : k ≤ 9) (h9 : k = 9 → x ≤ 1) : acc + x % 128 * 2 ^ (7 * k) < 18446744073709551616 := (step_or k acc x hx ha hk h9).2
set_option maxRecDepth 100000 in
set_option maxHeartbeats 2000000 in
theorem rr_number (w : World) (g e : Nat) (l : List UInt8) (hr : RRe w g l e) (hlen : l.length ≤ 70368744177664) :
    Calls Try.prog 51 #[.pointer (some ⟨g, 0, none⟩)] w (RTold w g .u64 (uptoB l e 18446744073709551615).1 (uptoB l e 18446744073709551615).2.1 (uptoB l e 18446744073709551615).2.2) := by
  obtain ⟨A, c, c0, c1, f0, f1, hb, hlc, hcm, hBB⟩ := hr.cells
  have HR := Lib.hid hr
  have HB := Lib.hid hb
  have HBB := Lib.hid hBB
  have HLN := Lib.hid hlen
  unfold uptoB
  by_cases he : e ≠ 0
  · rw [if_pos he]
    have he' : ((e : Int) != 0) = true := by simp; exact he
    clear he hr hb hlen hBB
    go_enter Try.func51, Try.ntmps51
    go_wp2_with fail
    go_ret
    exact ⟨rfl, HR.out, grown_refl _ _⟩
  · rw [if_neg he]
    obtain rfl : e = 0 := by omega
    have hres : (if (firstB l).2.2 ≠ 0 then ((0 : Nat), l, (firstB l).2.2) else if 18446744073709551615 < (firstB l).1 then (0, l.drop (firstB l).2.1, 3) else ((firstB l).1, l.drop (firstB l).2.1, 0)) = (if (firstB l).2.2 ≠ 0 then ((0 : Nat), l, (firstB l).2.2) else ((firstB l).1, l.drop (firstB l).2.1, 0)) := by
      by_cases h : (firstB l).2.2 ≠ 0
      · rw [if_pos h, if_pos h]
      · rw [if_neg h, if_neg h, if_neg (by have := (firstB_ok l (by omega)).2; omega)]
    rw [hres]
    have HBAD : Hid (∀ x, (firstB l).2.2 = x → x ≠ 0 → (if (firstB l).2.2 ≠ 0 then ((0 : Nat), l, (firstB l).2.2) else ((firstB l).1, l.drop (firstB l).2.1, 0)) = (0, l, x)) := fun x h1 h2 => by rw [h1, if_pos h2]
    have HGD : Hid (∀ n k, firstB l = (n, k, 0) → (if (firstB l).2.2 ≠ 0 then ((0 : Nat), l, (firstB l).2.2) else ((firstB l).1, l.drop (firstB l).2.1, 0)) = (n, l.drop k, 0)) := fun n k h1 => by rw [h1]; simp
    generalize (if (firstB l).2.2 ≠ 0 then ((0 : Nat), l, (firstB l).2.2) else ((firstB l).1, l.drop (firstB l).2.1, 0)) = res at *
    have HE4 := Lib.hid (HR.out.setErr 4)
    have HE5 := Lib.hid (HR.out.setErr 5)
    clear he hr hb hres hlen hBB
    go_enter Try.func51, Try.ntmps51
    go_wp2_with fail
    go_loop [3, 4] (fun n i => FirRel l n i) (fun _ i => l.length - (intOf i).toNat)
    case atStart => exact ⟨0, 0, by omega, by omega, rfl, rfl, by simp, rfl⟩
    case round =>
      obtain ⟨k, acc, hk, hk9, rfl, rfl, hacc, hrec⟩ := hrel
      have HA := Lib.hid hacc
      have HRC := Lib.hid hrec
      clear hacc hrec
      by_cases hlt : k < l.length
      · have hkl : (k : Int) < (l.length : Int) := by omega
        have HLT : Hid (k < l.length) := hlt
        obtain ⟨b, off, rfl, hbl, hc⟩ := HB.out.at hlt
        have hcell := hc k hlt
        have hx : l[k].toNat < 256 := l[k].toNat_lt
        have HBD := Lib.hid (fun acc => first_bad k acc l[k].toNat l hlt rfl)
        have HEN := Lib.hid (fun acc => first_end k acc l[k].toNat l hlt rfl)
        have HNX := Lib.hid (fun acc => first_next k acc l[k].toNat l hlt rfl)
        obtain ⟨A1, n1, c1', r1, b1, N1, hn1, hc1⟩ := HB.out.cutrun 30 elemByte sizeByte (k + 1) (by omega) .i64
        have B1A : Hid (∀ w', Below g w w' → Byt w' (.slice A1 n1 c1') (l.drop (k + 1))) := fun w' h => by
          obtain ⟨A2, n2, c2, r2, b2, _, _, _⟩ := (HBB.out w' h).cutrun 30 elemByte sizeByte (k + 1) (by have := HLT.out; omega) .i64
          have he := (r1 w).symm.trans (r2 w)
          injection he with he _
          rw [he]
          exact b2
        have hk1 : ((k + 1 : Nat) : Int) = (k : Int) + 1 := by omega
        rw [hk1] at r1
        have B1 := Lib.hid b1
        have HN1 : Hid (n1 = (l.drop (k + 1)).length) := by have := N1.out; rw [Hid, List.length_drop]; omega
        generalize l[k].toNat = x at *
        have HX : Hid (x < 256) := hx
        have hwx : IntKind.u64.wrap (x : Int) = (x : Int) := by rw [IntKind.wrap_u64]; omega
        clear hc hlt hk1 b1 hx
        by_cases h9 : k = 9
        · have h9' : ((k : Int) == 9) = true := by simp; omega
          have hk0 : (0 : Int) < (k : Int) := by omega
          have hk10 : (k : Int) ≤ 9 := by omega
          by_cases h1 : 1 < x
          · have h1' : (1 : Int) < (x : Int) := by omega
            have hfb := HBD.out acc (.inl ⟨h9, h1⟩)
            clear h9 h1
            rw [HRC.out] at hfb
            have hre := HBAD.out 4 (by rw [hfb]) (by omega)
            subst hre
            clear hfb
            go_wp2_with fail
            go_ret
            exact ⟨rfl, HE4.out, grown_set _ _ _ _⟩
          · have h1' : ¬ (1 : Int) < (x : Int) := by omega
            have hx128 : (x : Int) < 128 := by omega
            by_cases h0 : x = 0
            · have h0' : ((x : Int) == 0) = true := by simp; omega
              have hfb := HBD.out acc (.inr ⟨by omega, h0⟩)
              clear h9 h1 h0
              rw [HRC.out] at hfb
              have hre := HBAD.out 4 (by rw [hfb]) (by omega)
              subst hre
              clear hfb
              go_wp2_with fail
              go_ret
              exact ⟨rfl, HE4.out, grown_set _ _ _ _⟩
            · have h0' : ((x : Int) == 0) = false := by simp; omega
              have hfe := HEN.out acc (by omega) (by omega)
              have HSW := Lib.hid (sum_wrap k acc x HX.out HA.out (by omega) (by omega))
              clear h9 h1 h0
              rw [HRC.out] at hfe
              have hre := HGD.out _ _ hfe
              subst hre
              have HS := Lib.hid (show RRe (w.setCell ⟨g, 0, none⟩ (.slice A1 n1 c1')) g (l.drop (k + 1)) 0 by
                have h1 := B1A.out
                rw [HN1.out] at h1 ⊢
                exact HR.out.setRest h1)
              clear hfe
              go_wp2_with fail
              go_ret
              exact ⟨by rw [← HSW.out]; rfl, HS.out, grown_set _ _ _ _⟩
        · have h9' : ((k : Int) == 9) = false := by simp; omega
          have hk8 : (k : Int) ≤ 8 := by omega
          have HSW := Lib.hid (sum_wrap k acc x HX.out HA.out (by omega) (by omega))
          by_cases hend : x < 128
          · have hx128 : (x : Int) < 128 := by omega
            by_cases hk0 : 0 < k
            · have hk0' : (0 : Int) < (k : Int) := by omega
              by_cases h0 : x = 0
              · have h0' : ((x : Int) == 0) = true := by simp; omega
                have hfb := HBD.out acc (.inr ⟨by omega, h0⟩)
                clear h9 hend hk0 h0 HSW
                rw [HRC.out] at hfb
                have hre := HBAD.out 4 (by rw [hfb]) (by omega)
                subst hre
                clear hfb
                go_wp2_with fail
                go_ret
                exact ⟨rfl, HE4.out, grown_set _ _ _ _⟩
              · have h0' : ((x : Int) == 0) = false := by simp; omega
                have hfe := HEN.out acc (by omega) (by omega)
                clear h9 hend hk0 h0
                rw [HRC.out] at hfe
                have hre := HGD.out _ _ hfe
                subst hre
                have HS := Lib.hid (show RRe (w.setCell ⟨g, 0, none⟩ (.slice A1 n1 c1')) g (l.drop (k + 1)) 0 by
                  have h1 := B1A.out
                  rw [HN1.out] at h1 ⊢
                  exact HR.out.setRest h1)
                clear hfe
                go_wp2_with fail
                go_ret
                exact ⟨by rw [← HSW.out]; rfl, HS.out, grown_set _ _ _ _⟩
            · have hk0' : ¬ (0 : Int) < (k : Int) := by omega
              have hfe := HEN.out acc (by omega) (by omega)
              clear h9 hend hk0
              rw [HRC.out] at hfe
              have hre := HGD.out _ _ hfe
              subst hre
              have HS := Lib.hid (show RRe (w.setCell ⟨g, 0, none⟩ (.slice A1 n1 c1')) g (l.drop (k + 1)) 0 by
                have h1 := B1A.out
                rw [HN1.out] at h1 ⊢
                exact HR.out.setRest h1)
              clear hfe
              go_wp2_with fail
              go_ret
              exact ⟨by rw [← HSW.out]; rfl, HS.out, grown_set _ _ _ _⟩
          · have hx128 : ¬ (x : Int) < 128 := by omega
            have hfn := HNX.out acc (by omega) (by omega)
            rw [HRC.out] at hfn
            have HFN := Lib.hid hfn
            have HK8 : Hid (k ≤ 8) := by rw [Hid]; omega
            clear hfn h9 hend
            go_wp2_with fail
            go_roundw
            case rel => exact ⟨k + 1, _, by have := HLT.out; omega, by have := HK8.out; omega, by go_num, by rw [HSW.out], step_lt k acc x HA.out, HFN.out.symm⟩
            case measure => have := HLT.out; simp [intOf]; omega
      · have hkl : ¬ (k : Int) < (l.length : Int) := by omega
        have hfn := HRC.out
        rw [first_none k acc l (by omega)] at hfn
        have hre := HBAD.out 5 (by rw [← hfn]) (by omega)
        subst hre
        clear hlt hfn
        go_wp2_with fail
        go_ret
        exact ⟨rfl, HE5.out, grown_set _ _ _ _⟩
/-! Upto. -/
theorem upto_of (l : List UInt8) (e most : Nat) (hm : most < 18446744073709551616) : uptoB l e most = (if e = 0 ∧ (uptoB l e 18446744073709551615).2.2 = 0 ∧ most < (uptoB l e 18446744073709551615).1 then (0, (uptoB l e 18446744073709551615).2.1, 3) else uptoB l e 18446744073709551615) := by
  unfold uptoB
  by_cases he : e ≠ 0
  · rw [if_pos he, if_pos he, if_neg (fun h => he h.1)]
  · have e0 : e = 0 := by omega
    subst e0
    rw [if_neg he, if_neg he]
    by_cases h2 : (firstB l).2.2 ≠ 0
    · rw [if_pos h2, if_pos h2, if_neg (fun h => h2 h.2.1)]
    · have hlt := (firstB_ok l (by omega)).2
      rw [if_neg h2, if_neg h2, if_neg (show ¬ 18446744073709551615 < (firstB l).1 by omega)]
      by_cases h3 : most < (firstB l).1
      · rw [if_pos h3, if_pos ⟨rfl, rfl, h3⟩]
      · rw [if_neg h3, if_neg (fun h => h3 h.2.2)]
set_option maxHeartbeats 1000000 in
theorem rr_upto (w : World) (g e most : Nat) (l : List UInt8) (hr : RRe w g l e) (hlen : l.length ≤ 70368744177664) (hm : most < 18446744073709551616) :
    Calls Try.prog 44 #[.pointer (some ⟨g, 0, none⟩), .int .u64 (most : Int)] w (RTold w g .u64 (uptoB l e most).1 (uptoB l e most).2.1 (uptoB l e most).2.2) := by
  have HNU := Lib.hid (rr_number w g e l hr hlen)
  have hof := upto_of l e most hm
  have he0 : (uptoB l e 18446744073709551615).2.2 = 0 → e = 0 := fun h => (by
    unfold uptoB at h
    by_cases he : e ≠ 0
    · rw [if_pos he] at h; exact h
    · omega)
  rw [hof]
  have hn64 : (uptoB l e 18446744073709551615).1 ≤ 18446744073709551615 := by
    unfold uptoB
    split
    · simp
    · split
      · simp
      · split
        · simp
        · simp; omega
  generalize (uptoB l e 18446744073709551615) = u at *
  obtain ⟨n, l1, e1⟩ := u
  simp only at hof he0 HNU hn64 ⊢
  by_cases h : e1 = 0 ∧ most < n
  · rw [if_pos ⟨he0 h.1, h.1, h.2⟩]
    obtain ⟨rfl, h2⟩ := h
    have h2' : (most : Int) < (n : Int) := by omega
    clear hof he0 hr hlen h2
    go_enter Try.func44, Try.ntmps44
    go_wp2_with fail
    refine HNU.out.mono ?_
    rintro x w1 ⟨rfl, hr1, hg1⟩
    obtain ⟨A, c, c0, c1, f0, f1, hb, hlc, hcm, hBB⟩ := hr1.cells
    have HR1 := Lib.hid (hr1.setErr 3)
    have HG1 := Lib.hid hg1
    clear hr1 hg1 hb hBB
    go_wp2_with fail
    go_ret
    exact ⟨rfl, HR1.out, grown_trans HG1.out (grown_set _ _ _ _)⟩
  · rw [if_neg (fun h' => h ⟨h'.2.1, h'.2.2⟩)]
    clear hof hr hlen
    by_cases h1 : e1 = 0
    · subst h1
      have h2' : ¬ (most : Int) < (n : Int) := by have : ¬ most < n := fun h' => h ⟨rfl, h'⟩; omega
      clear h he0
      go_enter Try.func44, Try.ntmps44
      go_wp2_with fail
      refine HNU.out.mono ?_
      rintro x w1 ⟨rfl, hr1, hg1⟩
      obtain ⟨A, c, c0, c1, f0, f1, hb, hlc, hcm, hBB⟩ := hr1.cells
      have HR1 := Lib.hid hr1
      have HG1 := Lib.hid hg1
      clear hr1 hg1 hb hBB
      go_wp2_with fail
      go_ret
      exact ⟨rfl, HR1.out, HG1.out⟩
    · have h1' : ((e1 : Int) == 0) = false := by simp; exact h1
      clear h h1 he0
      go_enter Try.func44, Try.ntmps44
      go_wp2_with fail
      refine HNU.out.mono ?_
      rintro x w1 ⟨rfl, hr1, hg1⟩
      obtain ⟨A, c, c0, c1, f0, f1, hb, hlc, hcm, hBB⟩ := hr1.cells
      have HR1 := Lib.hid hr1
      have HG1 := Lib.hid hg1
      clear hr1 hg1 hb hBB
      go_wp2_with fail
      go_ret
      exact ⟨rfl, HR1.out, HG1.out⟩
end Go.Proofs.Ythakkaffjnkhgaa
