/-
  The statement SpaceTakes: so many are taken as there are free ones, the least first; what is given back is as it was; Both has what each uses. Conditions: none.
-/
import Derived.Test.YtncjobeahpjnpaaSpK
namespace Go.Proofs.Ytncjobeahpjnpaa.spaceTakes
open Go.ChangeShapes Go.WideShapes Go.ChangeAt Go.RowKit Go.Maps
set_option maxRecDepth 100000
set_option linter.unusedVariables false

/-- Between two rounds: so many have been taken. -/
structure TkAt (w : World) (bn : Nat) (p : Int) (l : List Bool) (A : Option Addr) (n c : Nat) (q : Int) (l2 : List Bool) (A2 : Option Addr) (n2 c2 : Nat) (fv : Value) (k : Nat) (m : List Bool) (An : Option Addr) (nn cn : Nat) (u : World) : Prop where
  s : SpBox u w.heap.size p (.slice A n c)
  t : SpBox u (w.heap.size + 1) q (.slice A2 n2 c2)
  now : SpBox u bn p (.slice An nn cn)
  lm : Boos u (.slice An nn cn) m
  ok : spOk p m
  free : spFree m = (spFree l).drop k
  row : Rowz u fv (natC (spFree l))
  bel : Below w.heap.size w u
  gt : w.heap.size + 1 < bn
def TkRel (w : World) (bn : Nat) (p : Int) (l : List Bool) (A : Option Addr) (n c : Nat) (q : Int) (l2 : List Bool) (A2 : Option Addr) (n2 c2 : Nat) (fv : Value) (i : Value) (u : World) : Prop :=
  ∃ (k : Nat) (m : List Bool) (An : Option Addr) (nn cn : Nat), k ≤ (spFree l).length ∧ i = .int .i64 (k : Int) ∧ TkAt w bn p l A n c q l2 A2 n2 c2 fv k m An nn cn u
theorem spOr_at (l m : List Bool) (k : Nat) (h1 : k < l.length) (h2 : k < m.length) (h3 : k < (spOr l m).length) : (spOr l m)[k] = (l[k] || m[k]) := List.getElem_zipWith ..
/-- Between two rounds of the last loop. -/
def OrRel (w : World) (p : Int) (A : Option Addr) (n c : Nat) (l : List Bool) (A2 : Option Addr) (n2 c2 : Nat) (l2 : List Bool) (B : Nat) (A3 : Option Addr) (n3 c3 : Nat) (i : Value) (u : World) : Prop :=
  ∃ k : Nat, k ≤ (spOr l l2).length ∧ i = .int .i64 (k : Int) ∧ SpBox u w.heap.size p (.slice A n c) ∧ SpBox u (w.heap.size + 1) p (.slice A2 n2 c2) ∧ SpBox u B p (.slice A3 n3 c3) ∧ Boos u (.slice A3 n3 c3) (spOr l l2) ∧ Below w.heap.size w u
theorem natC_at (l : List Nat) (j : Nat) (h : j < (natC l).length) : (natC l)[j] = .int .i64 ((l[j]'(by rw [natC_len] at h; exact h) : Nat) : Int) := by simp [natC]
theorem free_le (l : List Bool) : (spFree l).length ≤ l.length := by
  have : (spFree l).length ≤ (List.range l.length).length := List.length_filter_le _ _
  rwa [List.length_range] at this
set_option maxRecDepth 100000 in
set_option maxHeartbeats 16000000 in
theorem walk (w : World) (p : Int) (v : Value) (l : List Bool) (q : Int) (x : Value) (l2 : List Bool) (hv : Boos w v l) (hp : -9223372036854775808 ≤ p ∧ p ≤ 9223372036854775807) (hx : Boos w x l2) (hq : -9223372036854775808 ≤ q ∧ q ≤ 9223372036854775807) :
    Calls Try.prog 5 #[.agg #[.int .i64 p, v], .agg #[.int .i64 q, x]] w fun e w' => e = .returned (.bool true) ∧ Below w.heap.size w w' := by
  obtain ⟨w0, hw0⟩ : ∃ w0, (w.alloc (.cells #[.int .i64 p, v] 24)).alloc (.cells #[.int .i64 q, x] 24) = w0 := ⟨_, rfl⟩
  have hb0 : Below w.heap.size w w0 := hw0 ▸ (below_new w _).trans ((below_new _ _).mono (by simp))
  have hS : SpBox w0 w.heap.size p v := hw0 ▸ (SBox.new w 24 [.int .i64 p, v]).alloc _
  have hT : SpBox w0 (w.heap.size + 1) q x := by
    have := SBox.new (w.alloc (.cells #[.int .i64 p, v] 24)) 24 [.int .i64 q, x]
    rw [World.size_alloc] at this
    exact hw0 ▸ this
  obtain ⟨A, n, c, rfl, N, hnc, hcm⟩ := hv.form
  obtain ⟨A2, n2, c2, rfl, N2, hnc2, hcm2⟩ := hx.form
  have LS0 : Hid (Boos w0 (.slice A n c) l) := hv.below hb0
  have LT0 : Hid (Boos w0 (.slice A2 n2 c2) l2) := hx.below hb0
  have S0 := Lib.hid hS
  have T0 := Lib.hid hT
  have HB0 := Lib.hid hb0
  have HW0 := Lib.hid hw0
  have HVW := Lib.hid hv
  have HXW := Lib.hid hx
  clear hv hx hb0 hS hT hw0 hp hq
  by_cases hn : (300 : Int) < (n : Int)
  · clear hnc2 hcm2
    go_enter Try.func5, Try.ntmps5
    go_wp2_with fail
    rw [HW0.out]
    refine (lives8_any w0).mono ?_
    rintro e w1 ⟨rfl, hb1⟩
    have HB1 : Hid (Below w.heap.size w w1) := HB0.out.trans (hb1.mono HB0.out.size)
    have LS1 : Hid (Boos w1 (.slice A n c) l) := LS0.out.below hb1
    have LT1 : Hid (Boos w1 (.slice A2 n2 c2) l2) := LT0.out.below hb1
    have S1 : Hid (SpBox w1 (w.heap.size) (p) (.slice A n c)) := S0.out.below hb1
    have T1 : Hid (SpBox w1 (w.heap.size + 1) (q) (.slice A2 n2 c2)) := T0.out.below hb1
    clear hb1
    have pS := S1.out.c0
    have rS := S1.out.c1
    have pT := T1.out.c0
    have rT := T1.out.c1
    go_wp2_with fail
    clear pS rS pT rT
    go_ret
    exact ⟨rfl, HB1.out⟩
  · by_cases hm : (300 : Int) < (n2 : Int)
    · clear hnc2 hcm2
      go_enter Try.func5, Try.ntmps5
      go_wp2_with fail
      rw [HW0.out]
      refine (lives8_any w0).mono ?_
      rintro e w1 ⟨rfl, hb1⟩
      have HB1 : Hid (Below w.heap.size w w1) := HB0.out.trans (hb1.mono HB0.out.size)
      have LS1 : Hid (Boos w1 (.slice A n c) l) := LS0.out.below hb1
      have LT1 : Hid (Boos w1 (.slice A2 n2 c2) l2) := LT0.out.below hb1
      have S1 : Hid (SpBox w1 (w.heap.size) (p) (.slice A n c)) := S0.out.below hb1
      have T1 : Hid (SpBox w1 (w.heap.size + 1) (q) (.slice A2 n2 c2)) := T0.out.below hb1
      clear hb1
      have pS := S1.out.c0
      have rS := S1.out.c1
      have pT := T1.out.c0
      have rT := T1.out.c1
      go_wp2_with fail
      clear pS rS pT rT
      go_ret
      exact ⟨rfl, HB1.out⟩
    · have HN : Hid (l.length ≤ 300 ∧ l2.length ≤ 300) := ⟨by have : n = l.length := N.out; omega, by have : n2 = l2.length := N2.out; omega⟩
      have HLL : Hid (l.length ≤ 70368744177664) := by have := HN.out; show _ ≤ _; omega
      have HLM : Hid (l2.length ≤ 70368744177664) := by have := HN.out; show _ ≤ _; omega
      by_cases hok : spOk p l
      · have HCS : Hid ((if spOk p l then (0 : Int) else 2) = 0) := if_pos hok
        have HFC : Hid (spFreeC p l = spFree l) := if_pos hok
        have HOK := Lib.hid hok
        clear hok
        go_enter Try.func5, Try.ntmps5
        go_wp2_with fail
        rw [HW0.out]
        refine (lives8_any w0).mono ?_
        rintro e w1 ⟨rfl, hb1⟩
        have HB1 : Hid (Below w.heap.size w w1) := HB0.out.trans (hb1.mono HB0.out.size)
        have LS1 : Hid (Boos w1 (.slice A n c) l) := LS0.out.below hb1
        have LT1 : Hid (Boos w1 (.slice A2 n2 c2) l2) := LT0.out.below hb1
        have S1 : Hid (SpBox w1 (w.heap.size) (p) (.slice A n c)) := S0.out.below hb1
        have T1 : Hid (SpBox w1 (w.heap.size + 1) (q) (.slice A2 n2 c2)) := T0.out.below hb1
        clear hb1
        have pS := S1.out.c0
        have rS := S1.out.c1
        have pT := T1.out.c0
        have rT := T1.out.c1
        go_wp2_with fail
        clear pS rS pT rT
        refine (HCS.out ▸ spcheck_any w1 p _ l LS1.out HLL.out).mono ?_
        rintro e w2 ⟨rfl, hb2⟩
        have HB2 : Hid (Below w.heap.size w w2) := HB1.out.trans (hb2.mono HB1.out.size)
        have LS2 : Hid (Boos w2 (.slice A n c) l) := LS1.out.below hb2
        have LT2 : Hid (Boos w2 (.slice A2 n2 c2) l2) := LT1.out.below hb2
        have S2 : Hid (SpBox w2 (w.heap.size) (p) (.slice A n c)) := S1.out.below hb2
        have T2 : Hid (SpBox w2 (w.heap.size + 1) (q) (.slice A2 n2 c2)) := T1.out.below hb2
        clear hb2
        have pS := S2.out.c0
        have rS := S2.out.c1
        have pT := T2.out.c0
        have rT := T2.out.c1
        go_wp2_with fail
        clear pS rS pT rT
        refine (HFC.out ▸ spFree_any w2 p _ l LS2.out HLL.out).mono ?_
        rintro e w3 ⟨fv, rfl, hf3, hb3⟩
        have HB3 : Hid (Below w.heap.size w w3) := HB2.out.trans (hb3.mono HB2.out.size)
        have LS3 : Hid (Boos w3 (.slice A n c) l) := LS2.out.below hb3
        have LT3 : Hid (Boos w3 (.slice A2 n2 c2) l2) := LT2.out.below hb3
        have S3 : Hid (SpBox w3 (w.heap.size) (p) (.slice A n c)) := S2.out.below hb3
        have T3 : Hid (SpBox w3 (w.heap.size + 1) (q) (.slice A2 n2 c2)) := T2.out.below hb3
        obtain ⟨Af, nf, cf, rfl, NF, hnf, hcf⟩ := hf3.rowz.form
        have FV3 : Hid (Rowz w3 (.slice Af nf cf) (natC (spFree l))) := hf3.rowz
        have HNF : Hid (nf = (spFree l).length) := by rw [Hid, NF.out, natC_len]
        have HFO : Hid ((Value.slice Af nf cf).ownBlock ≠ some w3.heap.size) := fun hk => by have := (World.ownsRow.lt hf3 _ hk).2; omega
        clear hf3 NF
        clear hb3
        obtain ⟨w4, hw4⟩ : ∃ u, w3.alloc (.cells #[.int .i64 p, .slice A n c] 24) = u := ⟨_, rfl⟩
        have HW4 := Lib.hid hw4
        have hb4 : Below w3.heap.size w3 w4 := hw4 ▸ below_new _ _
        have HB4 : Hid (Below w.heap.size w w4) := HB3.out.trans (hb4.mono HB3.out.size)
        have LS4 : Hid (Boos w4 (.slice A n c) l) := LS3.out.below hb4
        have LT4 : Hid (Boos w4 (.slice A2 n2 c2) l2) := LT3.out.below hb4
        have FV4 : Hid (Rowz w4 (.slice Af nf cf) (natC (spFree l))) := FV3.out.below hb4
        have S4 : Hid (SpBox w4 (w.heap.size) (p) (.slice A n c)) := S3.out.below hb4
        have T4 : Hid (SpBox w4 (w.heap.size + 1) (q) (.slice A2 n2 c2)) := T3.out.below hb4
        have N4 : Hid (SpBox w4 w3.heap.size p (.slice A n c)) := hw4 ▸ SBox.new w3 24 [.int .i64 p, .slice A n c]
        have HBN : Hid (w.heap.size + 1 < w3.heap.size) := T3.out.lt
        have HNF4 : Hid ((nf : Int) ≤ 300) := by have := HNF.out; have := HN.out; have h2 := free_le l; show _ ≤ _; omega
        have pS := S3.out.c0
        have rS := S3.out.c1
        clear hw4 hb4
        go_wp2_with fail
        rw [HW4.out]
        clear pS rS
        go_loopw [7] (fun i u => TkRel w w3.heap.size p l A n c q l2 A2 n2 c2 (.slice Af nf cf) i u) (fun i _ => nf - (intOf i).toNat)
        case atStart => exact ⟨0, l, A, n, c, Nat.zero_le _, rfl, S4.out, T4.out, N4.out, LS4.out, HOK.out, rfl, FV4.out, HB4.out, HBN.out⟩
        case round =>
          obtain ⟨k, m, An, nn, cn, hk, rfl, hat⟩ := hrel
          obtain ⟨w20, hw20⟩ : ∃ u, u = wr := ⟨_, rfl⟩
          subst hw20
          have S20 := Lib.hid hat.s
          have T20 := Lib.hid hat.t
          have N20 := Lib.hid hat.now
          have LN20 := Lib.hid hat.lm
          have FV20 := Lib.hid hat.row
          have HB20 := Lib.hid hat.bel
          have HGT := Lib.hid hat.gt
          have LS20 : Hid (Boos w20 (.slice A n c) l) := HVW.out.below HB20.out
          have LT20 : Hid (Boos w20 (.slice A2 n2 c2) l2) := HXW.out.below HB20.out
          have hm8 := spOk_len hat.ok
          have HML : Hid (m.length ≤ 70368744177664) := show m.length ≤ 70368744177664 by omega
          have HMO := Lib.hid hat.ok
          have HFR := Lib.hid hat.free
          obtain ⟨hnn1, hnn2⟩ : nn ≤ cn ∧ cn ≤ 9223372036854775807 := by
            obtain ⟨A', n', c', e, _, h1, h2⟩ := hat.lm.form
            injection e with e1 e2 e3
            subst e2 e3
            exact ⟨h1, h2⟩
          clear hat hm8
          by_cases hlt : k < (spFree l).length
          · obtain ⟨x, hx⟩ : ∃ x, x = (spFree l)[k] := ⟨_, rfl⟩
            have hdrop : spFree m = x :: (spFree l).drop (k + 1) := by
              rw [HFR.out, List.drop_eq_getElem_cons hlt, hx]
            have hmem := spFree_ge HMO.out (show x ∈ spFree m by rw [hdrop]; exact List.mem_cons_self ..)
            obtain ⟨m2, hm2⟩ : ∃ m2, m2 = m.set x true := ⟨_, rfl⟩
            have hok2 : spOk p m2 := hm2 ▸ spOk_set HMO.out true (.inr rfl)
            have hfr2 : spFree m2 = (spFree l).drop (k + 1) := hm2 ▸ free_set hdrop
            have HTK : Hid (spTake p m = (x, p, m2, 0)) := hm2 ▸ spTake_hit HMO.out hdrop
            have hxp : (x : Int) < p := by have := spOk_len HMO.out; omega
            have HGV : Hid (spGive p m2 (x : Int) = (p, m, 0)) := by
              unfold spGive
              rw [Hid, if_neg (fun h => h.elim (fun h => h hok2) (fun h => by omega)), Int.toNat_natCast, if_neg (by rw [hm2, List.getElem?_set]; simp [hmem.2.1]), hm2, set_back true hmem.2.2]
            have HUS : Hid (spUse p m (x : Int) = (p, m2, 0)) := by
              unfold spUse
              rw [Hid, if_neg (fun h => h.elim (fun h => h HMO.out) (fun h => by omega)), Int.toNat_natCast, if_neg (by rw [hmem.2.2]; simp), hm2]
            obtain ⟨rl, hrl⟩ : ∃ rl, rl = ((spFree l).drop (k + 1)).length := ⟨_, rfl⟩
            have HCT : Hid ((spFreeC p m2).length = rl) := by rw [Hid, show spFreeC p m2 = spFree m2 from if_pos hok2, hfr2, hrl]
            have hrn : (rl : Int) = (nf : Int) - (k : Int) - 1 := by have := HNF.out; rw [List.length_drop] at hrl; omega
            have HML2 : Hid (m2.length ≤ 70368744177664) := by rw [Hid, hm2, List.length_set]; exact HML.out
            obtain ⟨bf, off, rfl, hbf, hcell⟩ := FV20.out.at (k := k) (by rw [natC_len]; exact hlt)
            have FC20 : Hid (CellIs w20 bf (off + k) (.int .i64 (x : Int))) := ⟨hbf, by rw [hcell k (by rw [natC_len]; exact hlt), natC_at, ← hx]⟩
            have hkn : (k : Int) < (nf : Int) := by have := HNF.out; omega
            have hk300 : (nf : Int) ≤ 300 := HNF4.out
            have HM2 := Lib.hid hm2
            have HO2 := Lib.hid hok2
            have HF2 := Lib.hid hfr2
            clear hx hdrop hmem hok2 hfr2 hxp hrl hbf hcell hm2
            have pS := S20.out.c0
            have rS := S20.out.c1
            have pT := T20.out.c0
            have rT := T20.out.c1
            have pN := N20.out.c0
            have rN := N20.out.c1
            have qFC := FC20.out.2
            go_wp2_with fail
            clear pS rS pT rT pN rN qFC
            refine (HTK.out ▸ spTake_any w20 p _ m LN20.out HML.out).mono ?_
            rintro e w21 ⟨x21, rfl, hx21, hb21⟩
            obtain ⟨A21, n21, c21, rfl, _, _, _⟩ := hx21.boos.form
            have HB21 : Hid (Below w.heap.size w w21) := HB20.out.trans (hb21.mono HB20.out.size)
            have LS21 : Hid (Boos w21 (.slice A n c) l) := LS20.out.below hb21
            have LT21 : Hid (Boos w21 (.slice A2 n2 c2) l2) := LT20.out.below hb21
            have LN21 : Hid (Boos w21 (.slice An nn cn) m) := LN20.out.below hb21
            have FV21 : Hid (Rowz w21 (.slice (some ⟨bf, off, none⟩) nf cf) (natC (spFree l))) := FV20.out.below hb21
            have FC21 : Hid (CellIs w21 (bf) (off + k) (.int .i64 (x : Int))) := FC20.out.below hb21
            have S21 : Hid (SpBox w21 (w.heap.size) (p) (.slice A n c)) := S20.out.below hb21
            have T21 : Hid (SpBox w21 (w.heap.size + 1) (q) (.slice A2 n2 c2)) := T20.out.below hb21
            have N21 : Hid (SpBox w21 (w3.heap.size) (p) (.slice An nn cn)) := N20.out.below hb21
            obtain ⟨w22, hw22⟩ : ∃ u, (w21.alloc (.cells #[.int .i64 (p), .slice A21 n21 c21] 24)) = u := ⟨_, rfl⟩
            have HW22 := Lib.hid hw22
            have hb22 : Below w21.heap.size w21 w22 := hw22 ▸ below_new _ _
            have HB22 : Hid (Below w.heap.size w w22) := HB21.out.trans (hb22.mono HB21.out.size)
            have LS22 : Hid (Boos w22 (.slice A n c) l) := LS21.out.below hb22
            have LT22 : Hid (Boos w22 (.slice A2 n2 c2) l2) := LT21.out.below hb22
            have LN22 : Hid (Boos w22 (.slice An nn cn) m) := LN21.out.below hb22
            have FV22 : Hid (Rowz w22 (.slice (some ⟨bf, off, none⟩) nf cf) (natC (spFree l))) := FV21.out.below hb22
            have FC22 : Hid (CellIs w22 (bf) (off + k) (.int .i64 (x : Int))) := FC21.out.below hb22
            have S22 : Hid (SpBox w22 (w.heap.size) (p) (.slice A n c)) := S21.out.below hb22
            have T22 : Hid (SpBox w22 (w.heap.size + 1) (q) (.slice A2 n2 c2)) := T21.out.below hb22
            have N22 : Hid (SpBox w22 (w3.heap.size) (p) (.slice An nn cn)) := N21.out.below hb22
            have X22 : Hid (SpBox w22 w21.heap.size (p) (.slice A21 n21 c21)) := hw22 ▸ SBox.new w21 24 [.int .i64 (p), .slice A21 n21 c21]
            have LX22 : Hid (Boos w22 (.slice A21 n21 c21) (m2)) := hw22 ▸ Rowz.alloc hx21.boos _
            have HNX : Hid ((Value.slice A21 n21 c21).ownBlock ≠ some w3.heap.size) := fun hk => by have := (World.ownsRow.lt hx21 _ hk).1; have := N20.out.lt; omega
            clear hx21 hb21 hw22 hb22
            have pS : (w21.alloc (.cells #[.int .i64 (p), .slice A21 n21 c21] 24)).cell? ⟨w.heap.size, 0, none⟩ = some (.int .i64 (p)) := by rw [HW22.out]; exact S22.out.c0
            have rS : (w21.alloc (.cells #[.int .i64 (p), .slice A21 n21 c21] 24)).cell? ⟨w.heap.size, 1, none⟩ = some (.slice A n c) := by rw [HW22.out]; exact S22.out.c1
            have pT : (w21.alloc (.cells #[.int .i64 (p), .slice A21 n21 c21] 24)).cell? ⟨w.heap.size + 1, 0, none⟩ = some (.int .i64 (q)) := by rw [HW22.out]; exact T22.out.c0
            have rT : (w21.alloc (.cells #[.int .i64 (p), .slice A21 n21 c21] 24)).cell? ⟨w.heap.size + 1, 1, none⟩ = some (.slice A2 n2 c2) := by rw [HW22.out]; exact T22.out.c1
            have pN : (w21.alloc (.cells #[.int .i64 (p), .slice A21 n21 c21] 24)).cell? ⟨w3.heap.size, 0, none⟩ = some (.int .i64 (p)) := by rw [HW22.out]; exact N22.out.c0
            have rN : (w21.alloc (.cells #[.int .i64 (p), .slice A21 n21 c21] 24)).cell? ⟨w3.heap.size, 1, none⟩ = some (.slice An nn cn) := by rw [HW22.out]; exact N22.out.c1
            have qFC : (w21.alloc (.cells #[.int .i64 (p), .slice A21 n21 c21] 24)).cell? ⟨bf, off + k, none⟩ = some (.int .i64 (x : Int)) := by rw [HW22.out]; exact FC22.out.2
            go_wp2_with fail
            rw [HW22.out]
            clear pS rS pT rT pN rN qFC
            refine (HGV.out ▸ spGive_any w22 p _ m2 (x : Int) LX22.out HML2.out).mono ?_
            rintro e w23 ⟨x23, rfl, hx23, hb23⟩
            obtain ⟨A23, n23, c23, rfl, _, _, _⟩ := hx23.boos.form
            have HB23 : Hid (Below w.heap.size w w23) := HB22.out.trans (hb23.mono HB22.out.size)
            have LS23 : Hid (Boos w23 (.slice A n c) l) := LS22.out.below hb23
            have LT23 : Hid (Boos w23 (.slice A2 n2 c2) l2) := LT22.out.below hb23
            have LN23 : Hid (Boos w23 (.slice An nn cn) m) := LN22.out.below hb23
            have FV23 : Hid (Rowz w23 (.slice (some ⟨bf, off, none⟩) nf cf) (natC (spFree l))) := FV22.out.below hb23
            have LX23 : Hid (Boos w23 (.slice A21 n21 c21) (m2)) := LX22.out.below hb23
            have FC23 : Hid (CellIs w23 (bf) (off + k) (.int .i64 (x : Int))) := FC22.out.below hb23
            have S23 : Hid (SpBox w23 (w.heap.size) (p) (.slice A n c)) := S22.out.below hb23
            have T23 : Hid (SpBox w23 (w.heap.size + 1) (q) (.slice A2 n2 c2)) := T22.out.below hb23
            have N23 : Hid (SpBox w23 (w3.heap.size) (p) (.slice An nn cn)) := N22.out.below hb23
            have X23 : Hid (SpBox w23 (w21.heap.size) (p) (.slice A21 n21 c21)) := X22.out.below hb23
            obtain ⟨w24, hw24⟩ : ∃ u, (w23.alloc (.cells #[.int .i64 (p), .slice A23 n23 c23] 24)) = u := ⟨_, rfl⟩
            have HW24 := Lib.hid hw24
            have hb24 : Below w23.heap.size w23 w24 := hw24 ▸ below_new _ _
            have HB24 : Hid (Below w.heap.size w w24) := HB23.out.trans (hb24.mono HB23.out.size)
            have LS24 : Hid (Boos w24 (.slice A n c) l) := LS23.out.below hb24
            have LT24 : Hid (Boos w24 (.slice A2 n2 c2) l2) := LT23.out.below hb24
            have LN24 : Hid (Boos w24 (.slice An nn cn) m) := LN23.out.below hb24
            have FV24 : Hid (Rowz w24 (.slice (some ⟨bf, off, none⟩) nf cf) (natC (spFree l))) := FV23.out.below hb24
            have LX24 : Hid (Boos w24 (.slice A21 n21 c21) (m2)) := LX23.out.below hb24
            have FC24 : Hid (CellIs w24 (bf) (off + k) (.int .i64 (x : Int))) := FC23.out.below hb24
            have S24 : Hid (SpBox w24 (w.heap.size) (p) (.slice A n c)) := S23.out.below hb24
            have T24 : Hid (SpBox w24 (w.heap.size + 1) (q) (.slice A2 n2 c2)) := T23.out.below hb24
            have N24 : Hid (SpBox w24 (w3.heap.size) (p) (.slice An nn cn)) := N23.out.below hb24
            have X24 : Hid (SpBox w24 (w21.heap.size) (p) (.slice A21 n21 c21)) := X23.out.below hb24
            have Y24 : Hid (SpBox w24 w23.heap.size (p) (.slice A23 n23 c23)) := hw24 ▸ SBox.new w23 24 [.int .i64 (p), .slice A23 n23 c23]
            have LY24 : Hid (Boos w24 (.slice A23 n23 c23) (m)) := hw24 ▸ Rowz.alloc hx23.boos _
            clear hx23 hb23 hw24 hb24
            have pS : (w23.alloc (.cells #[.int .i64 (p), .slice A23 n23 c23] 24)).cell? ⟨w.heap.size, 0, none⟩ = some (.int .i64 (p)) := by rw [HW24.out]; exact S24.out.c0
            have rS : (w23.alloc (.cells #[.int .i64 (p), .slice A23 n23 c23] 24)).cell? ⟨w.heap.size, 1, none⟩ = some (.slice A n c) := by rw [HW24.out]; exact S24.out.c1
            have pT : (w23.alloc (.cells #[.int .i64 (p), .slice A23 n23 c23] 24)).cell? ⟨w.heap.size + 1, 0, none⟩ = some (.int .i64 (q)) := by rw [HW24.out]; exact T24.out.c0
            have rT : (w23.alloc (.cells #[.int .i64 (p), .slice A23 n23 c23] 24)).cell? ⟨w.heap.size + 1, 1, none⟩ = some (.slice A2 n2 c2) := by rw [HW24.out]; exact T24.out.c1
            have pN : (w23.alloc (.cells #[.int .i64 (p), .slice A23 n23 c23] 24)).cell? ⟨w3.heap.size, 0, none⟩ = some (.int .i64 (p)) := by rw [HW24.out]; exact N24.out.c0
            have rN : (w23.alloc (.cells #[.int .i64 (p), .slice A23 n23 c23] 24)).cell? ⟨w3.heap.size, 1, none⟩ = some (.slice An nn cn) := by rw [HW24.out]; exact N24.out.c1
            have pX : (w23.alloc (.cells #[.int .i64 (p), .slice A23 n23 c23] 24)).cell? ⟨w21.heap.size, 0, none⟩ = some (.int .i64 (p)) := by rw [HW24.out]; exact X24.out.c0
            have rX : (w23.alloc (.cells #[.int .i64 (p), .slice A23 n23 c23] 24)).cell? ⟨w21.heap.size, 1, none⟩ = some (.slice A21 n21 c21) := by rw [HW24.out]; exact X24.out.c1
            have qFC : (w23.alloc (.cells #[.int .i64 (p), .slice A23 n23 c23] 24)).cell? ⟨bf, off + k, none⟩ = some (.int .i64 (x : Int)) := by rw [HW24.out]; exact FC24.out.2
            go_wp2_with fail
            rw [HW24.out]
            clear pS rS pT rT pN rN pX rX qFC
            refine (HUS.out ▸ spUse_any w24 p _ m (x : Int) LN24.out HML.out).mono ?_
            rintro e w25 ⟨x25, rfl, hx25, hb25⟩
            obtain ⟨A25, n25, c25, rfl, _, _, _⟩ := hx25.boos.form
            have HB25 : Hid (Below w.heap.size w w25) := HB24.out.trans (hb25.mono HB24.out.size)
            have LS25 : Hid (Boos w25 (.slice A n c) l) := LS24.out.below hb25
            have LT25 : Hid (Boos w25 (.slice A2 n2 c2) l2) := LT24.out.below hb25
            have LN25 : Hid (Boos w25 (.slice An nn cn) m) := LN24.out.below hb25
            have FV25 : Hid (Rowz w25 (.slice (some ⟨bf, off, none⟩) nf cf) (natC (spFree l))) := FV24.out.below hb25
            have LX25 : Hid (Boos w25 (.slice A21 n21 c21) (m2)) := LX24.out.below hb25
            have LY25 : Hid (Boos w25 (.slice A23 n23 c23) (m)) := LY24.out.below hb25
            have FC25 : Hid (CellIs w25 (bf) (off + k) (.int .i64 (x : Int))) := FC24.out.below hb25
            have S25 : Hid (SpBox w25 (w.heap.size) (p) (.slice A n c)) := S24.out.below hb25
            have T25 : Hid (SpBox w25 (w.heap.size + 1) (q) (.slice A2 n2 c2)) := T24.out.below hb25
            have N25 : Hid (SpBox w25 (w3.heap.size) (p) (.slice An nn cn)) := N24.out.below hb25
            have X25 : Hid (SpBox w25 (w21.heap.size) (p) (.slice A21 n21 c21)) := X24.out.below hb25
            have Y25 : Hid (SpBox w25 (w23.heap.size) (p) (.slice A23 n23 c23)) := Y24.out.below hb25
            obtain ⟨w26, hw26⟩ : ∃ u, (w25.alloc (.cells #[.int .i64 (p), .slice A25 n25 c25] 24)) = u := ⟨_, rfl⟩
            have HW26 := Lib.hid hw26
            have hb26 : Below w25.heap.size w25 w26 := hw26 ▸ below_new _ _
            have HB26 : Hid (Below w.heap.size w w26) := HB25.out.trans (hb26.mono HB25.out.size)
            have LS26 : Hid (Boos w26 (.slice A n c) l) := LS25.out.below hb26
            have LT26 : Hid (Boos w26 (.slice A2 n2 c2) l2) := LT25.out.below hb26
            have LN26 : Hid (Boos w26 (.slice An nn cn) m) := LN25.out.below hb26
            have FV26 : Hid (Rowz w26 (.slice (some ⟨bf, off, none⟩) nf cf) (natC (spFree l))) := FV25.out.below hb26
            have LX26 : Hid (Boos w26 (.slice A21 n21 c21) (m2)) := LX25.out.below hb26
            have LY26 : Hid (Boos w26 (.slice A23 n23 c23) (m)) := LY25.out.below hb26
            have FC26 : Hid (CellIs w26 (bf) (off + k) (.int .i64 (x : Int))) := FC25.out.below hb26
            have S26 : Hid (SpBox w26 (w.heap.size) (p) (.slice A n c)) := S25.out.below hb26
            have T26 : Hid (SpBox w26 (w.heap.size + 1) (q) (.slice A2 n2 c2)) := T25.out.below hb26
            have N26 : Hid (SpBox w26 (w3.heap.size) (p) (.slice An nn cn)) := N25.out.below hb26
            have X26 : Hid (SpBox w26 (w21.heap.size) (p) (.slice A21 n21 c21)) := X25.out.below hb26
            have Y26 : Hid (SpBox w26 (w23.heap.size) (p) (.slice A23 n23 c23)) := Y25.out.below hb26
            have U26 : Hid (SpBox w26 w25.heap.size (p) (.slice A25 n25 c25)) := hw26 ▸ SBox.new w25 24 [.int .i64 (p), .slice A25 n25 c25]
            have LU26 : Hid (Boos w26 (.slice A25 n25 c25) (m2)) := hw26 ▸ Rowz.alloc hx25.boos _
            clear hx25 hb25 hw26 hb26
            have pS : (w25.alloc (.cells #[.int .i64 (p), .slice A25 n25 c25] 24)).cell? ⟨w.heap.size, 0, none⟩ = some (.int .i64 (p)) := by rw [HW26.out]; exact S26.out.c0
            have rS : (w25.alloc (.cells #[.int .i64 (p), .slice A25 n25 c25] 24)).cell? ⟨w.heap.size, 1, none⟩ = some (.slice A n c) := by rw [HW26.out]; exact S26.out.c1
            have pT : (w25.alloc (.cells #[.int .i64 (p), .slice A25 n25 c25] 24)).cell? ⟨w.heap.size + 1, 0, none⟩ = some (.int .i64 (q)) := by rw [HW26.out]; exact T26.out.c0
            have rT : (w25.alloc (.cells #[.int .i64 (p), .slice A25 n25 c25] 24)).cell? ⟨w.heap.size + 1, 1, none⟩ = some (.slice A2 n2 c2) := by rw [HW26.out]; exact T26.out.c1
            have pN : (w25.alloc (.cells #[.int .i64 (p), .slice A25 n25 c25] 24)).cell? ⟨w3.heap.size, 0, none⟩ = some (.int .i64 (p)) := by rw [HW26.out]; exact N26.out.c0
            have rN : (w25.alloc (.cells #[.int .i64 (p), .slice A25 n25 c25] 24)).cell? ⟨w3.heap.size, 1, none⟩ = some (.slice An nn cn) := by rw [HW26.out]; exact N26.out.c1
            have pX : (w25.alloc (.cells #[.int .i64 (p), .slice A25 n25 c25] 24)).cell? ⟨w21.heap.size, 0, none⟩ = some (.int .i64 (p)) := by rw [HW26.out]; exact X26.out.c0
            have rX : (w25.alloc (.cells #[.int .i64 (p), .slice A25 n25 c25] 24)).cell? ⟨w21.heap.size, 1, none⟩ = some (.slice A21 n21 c21) := by rw [HW26.out]; exact X26.out.c1
            have pY : (w25.alloc (.cells #[.int .i64 (p), .slice A25 n25 c25] 24)).cell? ⟨w23.heap.size, 0, none⟩ = some (.int .i64 (p)) := by rw [HW26.out]; exact Y26.out.c0
            have rY : (w25.alloc (.cells #[.int .i64 (p), .slice A25 n25 c25] 24)).cell? ⟨w23.heap.size, 1, none⟩ = some (.slice A23 n23 c23) := by rw [HW26.out]; exact Y26.out.c1
            have qFC : (w25.alloc (.cells #[.int .i64 (p), .slice A25 n25 c25] 24)).cell? ⟨bf, off + k, none⟩ = some (.int .i64 (x : Int)) := by rw [HW26.out]; exact FC26.out.2
            go_wp2_with fail
            rw [HW26.out]
            clear pS rS pT rT pN rN pX rX pY rY qFC
            refine (HCT.out ▸ spCount_any w26 p _ m2 LX26.out HML2.out).mono ?_
            rintro e w27 ⟨rfl, hb27⟩
            have HB27 : Hid (Below w.heap.size w w27) := HB26.out.trans (hb27.mono HB26.out.size)
            have LS27 : Hid (Boos w27 (.slice A n c) l) := LS26.out.below hb27
            have LT27 : Hid (Boos w27 (.slice A2 n2 c2) l2) := LT26.out.below hb27
            have LN27 : Hid (Boos w27 (.slice An nn cn) m) := LN26.out.below hb27
            have FV27 : Hid (Rowz w27 (.slice (some ⟨bf, off, none⟩) nf cf) (natC (spFree l))) := FV26.out.below hb27
            have LX27 : Hid (Boos w27 (.slice A21 n21 c21) (m2)) := LX26.out.below hb27
            have LY27 : Hid (Boos w27 (.slice A23 n23 c23) (m)) := LY26.out.below hb27
            have LU27 : Hid (Boos w27 (.slice A25 n25 c25) (m2)) := LU26.out.below hb27
            have FC27 : Hid (CellIs w27 (bf) (off + k) (.int .i64 (x : Int))) := FC26.out.below hb27
            have S27 : Hid (SpBox w27 (w.heap.size) (p) (.slice A n c)) := S26.out.below hb27
            have T27 : Hid (SpBox w27 (w.heap.size + 1) (q) (.slice A2 n2 c2)) := T26.out.below hb27
            have N27 : Hid (SpBox w27 (w3.heap.size) (p) (.slice An nn cn)) := N26.out.below hb27
            have X27 : Hid (SpBox w27 (w21.heap.size) (p) (.slice A21 n21 c21)) := X26.out.below hb27
            have Y27 : Hid (SpBox w27 (w23.heap.size) (p) (.slice A23 n23 c23)) := Y26.out.below hb27
            have U27 : Hid (SpBox w27 (w25.heap.size) (p) (.slice A25 n25 c25)) := U26.out.below hb27
            clear hb27
            have pS := S27.out.c0
            have rS := S27.out.c1
            have pT := T27.out.c0
            have rT := T27.out.c1
            have pN := N27.out.c0
            have rN := N27.out.c1
            have pX := X27.out.c0
            have rX := X27.out.c1
            have pY := Y27.out.c0
            have rY := Y27.out.c1
            have pU := U27.out.c0
            have rU := U27.out.c1
            have qFC := FC27.out.2
            go_wp2_with fail
            clear pS rS pT rT pN rN pX rX pY rY pU rU qFC
            refine (dec_same p m ▸ spsame_any w27 p p _ _ m m LY27.out LN27.out).mono ?_
            rintro e w28 ⟨rfl, hb28⟩
            have HB28 : Hid (Below w.heap.size w w28) := HB27.out.trans (hb28.mono HB27.out.size)
            have LS28 : Hid (Boos w28 (.slice A n c) l) := LS27.out.below hb28
            have LT28 : Hid (Boos w28 (.slice A2 n2 c2) l2) := LT27.out.below hb28
            have LN28 : Hid (Boos w28 (.slice An nn cn) m) := LN27.out.below hb28
            have FV28 : Hid (Rowz w28 (.slice (some ⟨bf, off, none⟩) nf cf) (natC (spFree l))) := FV27.out.below hb28
            have LX28 : Hid (Boos w28 (.slice A21 n21 c21) (m2)) := LX27.out.below hb28
            have LY28 : Hid (Boos w28 (.slice A23 n23 c23) (m)) := LY27.out.below hb28
            have LU28 : Hid (Boos w28 (.slice A25 n25 c25) (m2)) := LU27.out.below hb28
            have FC28 : Hid (CellIs w28 (bf) (off + k) (.int .i64 (x : Int))) := FC27.out.below hb28
            have S28 : Hid (SpBox w28 (w.heap.size) (p) (.slice A n c)) := S27.out.below hb28
            have T28 : Hid (SpBox w28 (w.heap.size + 1) (q) (.slice A2 n2 c2)) := T27.out.below hb28
            have N28 : Hid (SpBox w28 (w3.heap.size) (p) (.slice An nn cn)) := N27.out.below hb28
            have X28 : Hid (SpBox w28 (w21.heap.size) (p) (.slice A21 n21 c21)) := X27.out.below hb28
            have Y28 : Hid (SpBox w28 (w23.heap.size) (p) (.slice A23 n23 c23)) := Y27.out.below hb28
            have U28 : Hid (SpBox w28 (w25.heap.size) (p) (.slice A25 n25 c25)) := U27.out.below hb28
            clear hb28
            have pS := S28.out.c0
            have rS := S28.out.c1
            have pT := T28.out.c0
            have rT := T28.out.c1
            have pN := N28.out.c0
            have rN := N28.out.c1
            have pX := X28.out.c0
            have rX := X28.out.c1
            have pY := Y28.out.c0
            have rY := Y28.out.c1
            have pU := U28.out.c0
            have rU := U28.out.c1
            have qFC := FC28.out.2
            go_wp2_with fail
            clear pS rS pT rT pN rN pX rX pY rY pU rU qFC
            refine (dec_same p m2 ▸ spsame_any w28 p p _ _ m2 m2 LU28.out LX28.out).mono ?_
            rintro e w29 ⟨rfl, hb29⟩
            have HB29 : Hid (Below w.heap.size w w29) := HB28.out.trans (hb29.mono HB28.out.size)
            have LS29 : Hid (Boos w29 (.slice A n c) l) := LS28.out.below hb29
            have LT29 : Hid (Boos w29 (.slice A2 n2 c2) l2) := LT28.out.below hb29
            have LN29 : Hid (Boos w29 (.slice An nn cn) m) := LN28.out.below hb29
            have FV29 : Hid (Rowz w29 (.slice (some ⟨bf, off, none⟩) nf cf) (natC (spFree l))) := FV28.out.below hb29
            have LX29 : Hid (Boos w29 (.slice A21 n21 c21) (m2)) := LX28.out.below hb29
            have LY29 : Hid (Boos w29 (.slice A23 n23 c23) (m)) := LY28.out.below hb29
            have LU29 : Hid (Boos w29 (.slice A25 n25 c25) (m2)) := LU28.out.below hb29
            have FC29 : Hid (CellIs w29 (bf) (off + k) (.int .i64 (x : Int))) := FC28.out.below hb29
            have S29 : Hid (SpBox w29 (w.heap.size) (p) (.slice A n c)) := S28.out.below hb29
            have T29 : Hid (SpBox w29 (w.heap.size + 1) (q) (.slice A2 n2 c2)) := T28.out.below hb29
            have N29 : Hid (SpBox w29 (w3.heap.size) (p) (.slice An nn cn)) := N28.out.below hb29
            have X29 : Hid (SpBox w29 (w21.heap.size) (p) (.slice A21 n21 c21)) := X28.out.below hb29
            have Y29 : Hid (SpBox w29 (w23.heap.size) (p) (.slice A23 n23 c23)) := Y28.out.below hb29
            have U29 : Hid (SpBox w29 (w25.heap.size) (p) (.slice A25 n25 c25)) := U28.out.below hb29
            clear hb29
            have pS := S29.out.c0
            have rS := S29.out.c1
            have pT := T29.out.c0
            have rT := T29.out.c1
            have pN := N29.out.c0
            have rN := N29.out.c1
            have pX := X29.out.c0
            have rX := X29.out.c1
            have pY := Y29.out.c0
            have rY := Y29.out.c1
            have pU := U29.out.c0
            have rU := U29.out.c1
            have qFC := FC29.out.2
            have HBk : Hid (Below w.heap.size w w29) := HB29.out
            go_wp2_with (refine wpList_storeS N29.out spInfo rfl _ _ rfl rfl (ds := [.int .i64 p, .slice A21 n21 c21]) rfl rfl (one_sp _ _ _ _) ?_; intro w30 hs hg hz; have S30 : Hid (SpBox w30 w.heap.size p (.slice A n c)) := S29.out.grown hg (by have := HGT.out; omega); have T30 : Hid (SpBox w30 (w.heap.size + 1) q (.slice A2 n2 c2)) := T29.out.grown hg (by have := HGT.out; omega); have N30 := Lib.hid hs; have LM30 : Hid (Boos w30 (.slice A21 n21 c21) m2) := Rowz.grown LX29.out hg (fun j hj e => HNX.out (by rw [hj, e])); have FV30 : Hid (Rowz w30 (.slice (some ⟨bf, off, none⟩) nf cf) (natC (spFree l))) := Rowz.grown FV29.out hg (fun j hj e => HFO.out (by rw [hj, e])); have HB30 : Hid (Below w.heap.size w w30) := HB29.out.grown hg HB29.out.size (fun j e => by cases e; have := HGT.out; omega); clear hs hg hz)
            go_roundw
            clear pS rS pT rT pN rN pX rX pY rY pU rU qFC
            all_goals first
              | exact ⟨k + 1, m2, A21, n21, c21, by omega, by push_cast; rfl, S30.out, T30.out, N30.out, LM30.out, HO2.out, HF2.out, FV30.out, HB30.out, HGT.out⟩
              | (show nf - ((k : Int) + 1).toNat < nf - (k : Int).toNat; omega)
          · have hke : k = (spFree l).length := by omega
            have HTN : Hid (spTake p m = (0, 0, [], 9)) := spTake_none HMO.out (by rw [HFR.out, hke, List.drop_length])
            have HFL : Hid ((spFreeC p l).length = nf) := by rw [Hid, HFC.out, HNF.out]
            have hkn : k = nf := by rw [hke]; exact HNF.out.symm
            subst hkn
            clear hke hlt hk
            by_cases hom : spOk q l2
            · by_cases hpq : p = q
              · subst hpq
                have HBS : Hid (spBoth p l p l2 = (p, spOr l l2, 0)) := if_neg (fun h => h.elim (fun h => h HOK.out) (fun h => h.elim (fun h => h hom) (fun h => h rfl)))
                have HOM := Lib.hid hom
                clear hom
                have pS := S20.out.c0
                have rS := S20.out.c1
                have pT := T20.out.c0
                have rT := T20.out.c1
                have pN := N20.out.c0
                have rN := N20.out.c1
                go_wp2_with fail
                clear pS rS pT rT pN rN
                refine (HTN.out ▸ spTake_any w20 p _ m LN20.out HML.out).mono ?_
                rintro e w21 ⟨x21, rfl, hx21, hb21⟩
                obtain ⟨A21, n21, c21, rfl, _, _, _⟩ := hx21.boos.form
                have HB21 : Hid (Below w.heap.size w w21) := HB20.out.trans (hb21.mono HB20.out.size)
                have LS21 : Hid (Boos w21 (.slice A n c) l) := LS20.out.below hb21
                have LT21 : Hid (Boos w21 (.slice A2 n2 c2) l2) := LT20.out.below hb21
                have LN21 : Hid (Boos w21 (.slice An nn cn) m) := LN20.out.below hb21
                have FV21 : Hid (Rowz w21 (.slice Af k cf) (natC (spFree l))) := FV20.out.below hb21
                have S21 : Hid (SpBox w21 (w.heap.size) (p) (.slice A n c)) := S20.out.below hb21
                have T21 : Hid (SpBox w21 (w.heap.size + 1) (p) (.slice A2 n2 c2)) := T20.out.below hb21
                have N21 : Hid (SpBox w21 (w3.heap.size) (p) (.slice An nn cn)) := N20.out.below hb21
                obtain ⟨w22, hw22⟩ : ∃ u, (w21.alloc (.cells #[.int .i64 (0), .slice A21 n21 c21] 24)) = u := ⟨_, rfl⟩
                have HW22 := Lib.hid hw22
                have hb22 : Below w21.heap.size w21 w22 := hw22 ▸ below_new _ _
                have HB22 : Hid (Below w.heap.size w w22) := HB21.out.trans (hb22.mono HB21.out.size)
                have LS22 : Hid (Boos w22 (.slice A n c) l) := LS21.out.below hb22
                have LT22 : Hid (Boos w22 (.slice A2 n2 c2) l2) := LT21.out.below hb22
                have LN22 : Hid (Boos w22 (.slice An nn cn) m) := LN21.out.below hb22
                have FV22 : Hid (Rowz w22 (.slice Af k cf) (natC (spFree l))) := FV21.out.below hb22
                have S22 : Hid (SpBox w22 (w.heap.size) (p) (.slice A n c)) := S21.out.below hb22
                have T22 : Hid (SpBox w22 (w.heap.size + 1) (p) (.slice A2 n2 c2)) := T21.out.below hb22
                have N22 : Hid (SpBox w22 (w3.heap.size) (p) (.slice An nn cn)) := N21.out.below hb22
                have X22 : Hid (SpBox w22 w21.heap.size (0) (.slice A21 n21 c21)) := hw22 ▸ SBox.new w21 24 [.int .i64 (0), .slice A21 n21 c21]
                have LX22 : Hid (Boos w22 (.slice A21 n21 c21) ([])) := hw22 ▸ Rowz.alloc hx21.boos _
                clear hx21 hb21 hw22 hb22
                have pS : (w21.alloc (.cells #[.int .i64 (0), .slice A21 n21 c21] 24)).cell? ⟨w.heap.size, 0, none⟩ = some (.int .i64 (p)) := by rw [HW22.out]; exact S22.out.c0
                have rS : (w21.alloc (.cells #[.int .i64 (0), .slice A21 n21 c21] 24)).cell? ⟨w.heap.size, 1, none⟩ = some (.slice A n c) := by rw [HW22.out]; exact S22.out.c1
                have pT : (w21.alloc (.cells #[.int .i64 (0), .slice A21 n21 c21] 24)).cell? ⟨w.heap.size + 1, 0, none⟩ = some (.int .i64 (p)) := by rw [HW22.out]; exact T22.out.c0
                have rT : (w21.alloc (.cells #[.int .i64 (0), .slice A21 n21 c21] 24)).cell? ⟨w.heap.size + 1, 1, none⟩ = some (.slice A2 n2 c2) := by rw [HW22.out]; exact T22.out.c1
                have pN : (w21.alloc (.cells #[.int .i64 (0), .slice A21 n21 c21] 24)).cell? ⟨w3.heap.size, 0, none⟩ = some (.int .i64 (p)) := by rw [HW22.out]; exact N22.out.c0
                have rN : (w21.alloc (.cells #[.int .i64 (0), .slice A21 n21 c21] 24)).cell? ⟨w3.heap.size, 1, none⟩ = some (.slice An nn cn) := by rw [HW22.out]; exact N22.out.c1
                go_wp2_with fail
                rw [HW22.out]
                clear pS rS pT rT pN rN
                refine (HFL.out ▸ spCount_any w22 p _ l LS22.out HLL.out).mono ?_
                rintro e w23 ⟨rfl, hb23⟩
                have HB23 : Hid (Below w.heap.size w w23) := HB22.out.trans (hb23.mono HB22.out.size)
                have LS23 : Hid (Boos w23 (.slice A n c) l) := LS22.out.below hb23
                have LT23 : Hid (Boos w23 (.slice A2 n2 c2) l2) := LT22.out.below hb23
                have LN23 : Hid (Boos w23 (.slice An nn cn) m) := LN22.out.below hb23
                have FV23 : Hid (Rowz w23 (.slice Af k cf) (natC (spFree l))) := FV22.out.below hb23
                have LX23 : Hid (Boos w23 (.slice A21 n21 c21) ([])) := LX22.out.below hb23
                have S23 : Hid (SpBox w23 (w.heap.size) (p) (.slice A n c)) := S22.out.below hb23
                have T23 : Hid (SpBox w23 (w.heap.size + 1) (p) (.slice A2 n2 c2)) := T22.out.below hb23
                have N23 : Hid (SpBox w23 (w3.heap.size) (p) (.slice An nn cn)) := N22.out.below hb23
                have X23 : Hid (SpBox w23 (w21.heap.size) (0) (.slice A21 n21 c21)) := X22.out.below hb23
                clear hb23
                have pS := S23.out.c0
                have rS := S23.out.c1
                have pT := T23.out.c0
                have rT := T23.out.c1
                have pN := N23.out.c0
                have rN := N23.out.c1
                have pX := X23.out.c0
                have rX := X23.out.c1
                go_wp2_with fail
                clear pS rS pT rT pN rN pX rX
                refine (HBS.out ▸ spBoth_any w23 p p _ _ l l2 LS23.out LT23.out HLL.out HLM.out).mono ?_
                rintro e w24 ⟨x24, rfl, hx24, hb24⟩
                obtain ⟨A24, n24, c24, rfl, _, _, _⟩ := hx24.boos.form
                have HB24 : Hid (Below w.heap.size w w24) := HB23.out.trans (hb24.mono HB23.out.size)
                have LS24 : Hid (Boos w24 (.slice A n c) l) := LS23.out.below hb24
                have LT24 : Hid (Boos w24 (.slice A2 n2 c2) l2) := LT23.out.below hb24
                have LN24 : Hid (Boos w24 (.slice An nn cn) m) := LN23.out.below hb24
                have FV24 : Hid (Rowz w24 (.slice Af k cf) (natC (spFree l))) := FV23.out.below hb24
                have LX24 : Hid (Boos w24 (.slice A21 n21 c21) ([])) := LX23.out.below hb24
                have S24 : Hid (SpBox w24 (w.heap.size) (p) (.slice A n c)) := S23.out.below hb24
                have T24 : Hid (SpBox w24 (w.heap.size + 1) (p) (.slice A2 n2 c2)) := T23.out.below hb24
                have N24 : Hid (SpBox w24 (w3.heap.size) (p) (.slice An nn cn)) := N23.out.below hb24
                have X24 : Hid (SpBox w24 (w21.heap.size) (0) (.slice A21 n21 c21)) := X23.out.below hb24
                obtain ⟨w25, hw25⟩ : ∃ u, (w24.alloc (.cells #[.int .i64 (p), .slice A24 n24 c24] 24)) = u := ⟨_, rfl⟩
                have HW25 := Lib.hid hw25
                have hb25 : Below w24.heap.size w24 w25 := hw25 ▸ below_new _ _
                have HB25 : Hid (Below w.heap.size w w25) := HB24.out.trans (hb25.mono HB24.out.size)
                have LS25 : Hid (Boos w25 (.slice A n c) l) := LS24.out.below hb25
                have LT25 : Hid (Boos w25 (.slice A2 n2 c2) l2) := LT24.out.below hb25
                have LN25 : Hid (Boos w25 (.slice An nn cn) m) := LN24.out.below hb25
                have FV25 : Hid (Rowz w25 (.slice Af k cf) (natC (spFree l))) := FV24.out.below hb25
                have LX25 : Hid (Boos w25 (.slice A21 n21 c21) ([])) := LX24.out.below hb25
                have S25 : Hid (SpBox w25 (w.heap.size) (p) (.slice A n c)) := S24.out.below hb25
                have T25 : Hid (SpBox w25 (w.heap.size + 1) (p) (.slice A2 n2 c2)) := T24.out.below hb25
                have N25 : Hid (SpBox w25 (w3.heap.size) (p) (.slice An nn cn)) := N24.out.below hb25
                have X25 : Hid (SpBox w25 (w21.heap.size) (0) (.slice A21 n21 c21)) := X24.out.below hb25
                have B25 : Hid (SpBox w25 w24.heap.size (p) (.slice A24 n24 c24)) := hw25 ▸ SBox.new w24 24 [.int .i64 (p), .slice A24 n24 c24]
                have LB25 : Hid (Boos w25 (.slice A24 n24 c24) (spOr l l2)) := hw25 ▸ Rowz.alloc hx24.boos _
                clear hx24 hb24 hw25 hb25
                have pS : (w24.alloc (.cells #[.int .i64 (p), .slice A24 n24 c24] 24)).cell? ⟨w.heap.size, 0, none⟩ = some (.int .i64 (p)) := by rw [HW25.out]; exact S25.out.c0
                have rS : (w24.alloc (.cells #[.int .i64 (p), .slice A24 n24 c24] 24)).cell? ⟨w.heap.size, 1, none⟩ = some (.slice A n c) := by rw [HW25.out]; exact S25.out.c1
                have pT : (w24.alloc (.cells #[.int .i64 (p), .slice A24 n24 c24] 24)).cell? ⟨w.heap.size + 1, 0, none⟩ = some (.int .i64 (p)) := by rw [HW25.out]; exact T25.out.c0
                have rT : (w24.alloc (.cells #[.int .i64 (p), .slice A24 n24 c24] 24)).cell? ⟨w.heap.size + 1, 1, none⟩ = some (.slice A2 n2 c2) := by rw [HW25.out]; exact T25.out.c1
                have pN : (w24.alloc (.cells #[.int .i64 (p), .slice A24 n24 c24] 24)).cell? ⟨w3.heap.size, 0, none⟩ = some (.int .i64 (p)) := by rw [HW25.out]; exact N25.out.c0
                have rN : (w24.alloc (.cells #[.int .i64 (p), .slice A24 n24 c24] 24)).cell? ⟨w3.heap.size, 1, none⟩ = some (.slice An nn cn) := by rw [HW25.out]; exact N25.out.c1
                have pX : (w24.alloc (.cells #[.int .i64 (p), .slice A24 n24 c24] 24)).cell? ⟨w21.heap.size, 0, none⟩ = some (.int .i64 (0)) := by rw [HW25.out]; exact X25.out.c0
                have rX : (w24.alloc (.cells #[.int .i64 (p), .slice A24 n24 c24] 24)).cell? ⟨w21.heap.size, 1, none⟩ = some (.slice A21 n21 c21) := by rw [HW25.out]; exact X25.out.c1
                go_wp2_with fail
                rw [HW25.out]
                clear pS rS pT rT pN rN pX rX
                obtain ⟨B, hB⟩ : ∃ B, B = w24.heap.size := ⟨_, rfl⟩
                rw [← hB] at B25 ⊢
                clear hB
                have hlen3 : n24 = (spOr l l2).length := by
                  obtain ⟨A', n', c', e, N', _, _⟩ := LB25.out.form
                  cases e
                  exact N'.out
                have HLE : Hid (l.length = n24 ∧ l2.length = n24) := by
                  have h1 := spOk_len HOK.out
                  have h2 := spOk_len HOM.out
                  have h3 := hlen3
                  unfold spOr at h3
                  rw [List.length_zipWith] at h3
                  exact ⟨by omega, by omega⟩
                have hnl : n24 ≤ 4096 := by have h1 := spOk_len HOK.out; have := HLE.out; omega
                have HL3 := Lib.hid hlen3
                clear hlen3
                go_loopw [19] (fun i u => OrRel w p A n c l A2 n2 c2 l2 B A24 n24 c24 i u) (fun i _ => (spOr l l2).length - (intOf i).toNat)
                case atStart => exact ⟨0, Nat.zero_le _, rfl, S25.out, T25.out, B25.out, LB25.out, HB25.out⟩
                case round =>
                  obtain ⟨k, hk, rfl, hsb, htb, hbb, hlb, hbw⟩ := hrel
                  have HSW : Hid (SpBox wr.drew w.heap.size p (.slice A n c)) := SBox.below hsb (Below.refl _ wr).drew
                  have HTW : Hid (SpBox wr.drew (w.heap.size + 1) p (.slice A2 n2 c2)) := SBox.below htb (Below.refl _ wr).drew
                  have HBW : Hid (SpBox wr.drew B p (.slice A24 n24 c24)) := SBox.below hbb (Below.refl _ wr).drew
                  have HLW : Hid (Boos wr.drew (.slice A24 n24 c24) (spOr l l2)) := hlb.below (Below.refl _ wr).drew
                  have HWW : Hid (Below w.heap.size w wr.drew) := hbw.drew
                  have HW1 := Lib.hid hbw
                  have pB := SpBox.c1 hbb
                  have hn3 : n24 = (spOr l l2).length := HL3.out
                  clear hsb htb hbb hlb hbw
                  by_cases hlt : k < (spOr l l2).length
                  · have hl1 : k < l.length := by have := HLE.out; omega
                    have hl2 : k < l2.length := by have := HLE.out; omega
                    obtain ⟨b1, o1, rfl, hb1, hc1⟩ := (HVW.out.below HWW.out).at hl1
                    obtain ⟨b2, o2, rfl, hb2, hc2⟩ := (HXW.out.below HWW.out).at hl2
                    obtain ⟨b3, o3, rfl, hb3, hc3⟩ := HLW.out.at hlt
                    have CS := Lib.hid (hc1 k hl1)
                    have CT := Lib.hid (hc2 k hl2)
                    have CB := Lib.hid (hc3 k hlt)
                    have BD := Lib.hid (SpBox.c1 HBW.out)
                    have SD := Lib.hid (SpBox.c1 HSW.out)
                    have TD := Lib.hid (SpBox.c1 HTW.out)
                    have hkn : (k : Int) < (n24 : Int) := by omega
                    have hk1 : (k : Int) < (n : Int) := by have := N.out; omega
                    have hk2 : (k : Int) < (n2 : Int) := by have := N2.out; omega
                    have hor := spOr_at l l2 k hl1 hl2 hlt
                    rw [hor] at CB
                    clear hc1 hc2 hc3 hb1 hb2 hb3 hor
                    generalize l[k] = x at *
                    generalize l2[k] = y at *
                    cases x with
                    | true =>
                      rw [Bool.true_or] at CB
                      go_wp2_with fail
                      refine wp_region_R (R := fun x y => x = y) (by kernel_rfl) (fun _ => rfl) (fun h k => h.trans k) (by kernel_rfl) (fun d v c a w h => by cases d <;> exact h)
                        [(0, false), (1, false), (2, false), (3, false), (4, false), (5, false), (6, false), (7, false), (8, false), (9, false), (10, false), (11, false), (12, false), (13, false), (14, false), (15, false), (16, false), (17, false)] rfl (by kernel_rfl) (by kernel_rfl) ?_
                      simp only [sel, List.getElem?_toArray, List.getElem?_cons_succ, List.getElem?_cons_zero]
                      generalize wr.drew = wd at *
                      (refine sch_take ?_ rfl ?_ ?_; rotate_left; (focus (intro u hu; go_simp <;> rfl)); simp only [Act.put, List.setIfInBounds_toArray, List.set_cons_zero, List.set_cons_succ])
                      (refine sch_take ?_ rfl ?_ ?_; rotate_left; (focus (intro u hu; subst hu; have c1 := BD.out; go_simp <;> rfl)); simp only [Act.put, List.setIfInBounds_toArray, List.set_cons_zero, List.set_cons_succ])
                      iterate 2 (refine sch_take ?_ rfl ?_ ?_; rotate_left; (focus (intro u hu; go_simp <;> rfl)); simp only [Act.put, List.setIfInBounds_toArray, List.set_cons_zero, List.set_cons_succ])
                      (refine sch_take ?_ rfl ?_ ?_; rotate_left; (focus (intro u hu; subst hu; have c1 := CB.out; go_simp <;> rfl)); simp only [Act.put, List.setIfInBounds_toArray, List.set_cons_zero, List.set_cons_succ])
                      (refine sch_take ?_ rfl ?_ ?_; rotate_left; (focus (intro u hu; go_simp <;> rfl)); simp only [Act.put, List.setIfInBounds_toArray, List.set_cons_zero, List.set_cons_succ])
                      (refine sch_take ?_ rfl ?_ ?_; rotate_left; (focus (intro u hu; subst hu; have c1 := SD.out; go_simp <;> rfl)); simp only [Act.put, List.setIfInBounds_toArray, List.set_cons_zero, List.set_cons_succ])
                      iterate 2 (refine sch_take ?_ rfl ?_ ?_; rotate_left; (focus (intro u hu; go_simp <;> rfl)); simp only [Act.put, List.setIfInBounds_toArray, List.set_cons_zero, List.set_cons_succ])
                      (refine sch_take ?_ rfl ?_ ?_; rotate_left; (focus (intro u hu; subst hu; have c1 := CS.out; go_simp <;> rfl)); simp only [Act.put, List.setIfInBounds_toArray, List.set_cons_zero, List.set_cons_succ])
                      (refine sch_take ?_ rfl ?_ ?_; rotate_left; (focus (intro u hu; go_simp <;> rfl)); simp only [Act.put, List.setIfInBounds_toArray, List.set_cons_zero, List.set_cons_succ])
                      refine sch_idle rfl ?_
                      simp only [Act.put, List.setIfInBounds_toArray, List.set_cons_zero, List.set_cons_succ]
                      refine sch_idle rfl ?_
                      simp only [Act.put, List.setIfInBounds_toArray, List.set_cons_zero, List.set_cons_succ]
                      refine sch_idle rfl ?_
                      simp only [Act.put, List.setIfInBounds_toArray, List.set_cons_zero, List.set_cons_succ]
                      refine sch_idle rfl ?_
                      simp only [Act.put, List.setIfInBounds_toArray, List.set_cons_zero, List.set_cons_succ]
                      refine sch_idle rfl ?_
                      simp only [Act.put, List.setIfInBounds_toArray, List.set_cons_zero, List.set_cons_succ]
                      iterate 2 (refine sch_take ?_ rfl ?_ ?_; rotate_left; (focus (intro u hu; go_simp <;> rfl)); simp only [Act.put, List.setIfInBounds_toArray, List.set_cons_zero, List.set_cons_succ])
                      refine sch_nil ?_
                      go_wp2_with fail
                      go_roundw
                      all_goals first
                        | exact ⟨k + 1, by omega, by push_cast; rfl, HSW.out, HTW.out, HBW.out, HLW.out, HWW.out⟩
                        | (show (spOr l l2).length - ((k : Int) + 1).toNat < (spOr l l2).length - (k : Int).toNat; omega)
                    | false =>
                      rw [Bool.false_or] at CB
                      cases y with
                      | true =>
                        go_wp2_with fail
                        refine wp_region_R (R := fun x y => x = y) (by kernel_rfl) (fun _ => rfl) (fun h k => h.trans k) (by kernel_rfl) (fun d v c a w h => by cases d <;> exact h)
                          [(0, false), (1, false), (2, false), (3, false), (4, false), (5, false), (6, false), (7, false), (8, false), (9, false), (10, false), (11, false), (12, false), (13, false), (14, false), (15, false), (16, false), (17, false)] rfl (by kernel_rfl) (by kernel_rfl) ?_
                        simp only [sel, List.getElem?_toArray, List.getElem?_cons_succ, List.getElem?_cons_zero]
                        generalize wr.drew = wd at *
                        (refine sch_take ?_ rfl ?_ ?_; rotate_left; (focus (intro u hu; go_simp <;> rfl)); simp only [Act.put, List.setIfInBounds_toArray, List.set_cons_zero, List.set_cons_succ])
                        (refine sch_take ?_ rfl ?_ ?_; rotate_left; (focus (intro u hu; subst hu; have c1 := BD.out; go_simp <;> rfl)); simp only [Act.put, List.setIfInBounds_toArray, List.set_cons_zero, List.set_cons_succ])
                        iterate 2 (refine sch_take ?_ rfl ?_ ?_; rotate_left; (focus (intro u hu; go_simp <;> rfl)); simp only [Act.put, List.setIfInBounds_toArray, List.set_cons_zero, List.set_cons_succ])
                        (refine sch_take ?_ rfl ?_ ?_; rotate_left; (focus (intro u hu; subst hu; have c1 := CB.out; go_simp <;> rfl)); simp only [Act.put, List.setIfInBounds_toArray, List.set_cons_zero, List.set_cons_succ])
                        (refine sch_take ?_ rfl ?_ ?_; rotate_left; (focus (intro u hu; go_simp <;> rfl)); simp only [Act.put, List.setIfInBounds_toArray, List.set_cons_zero, List.set_cons_succ])
                        (refine sch_take ?_ rfl ?_ ?_; rotate_left; (focus (intro u hu; subst hu; have c1 := SD.out; go_simp <;> rfl)); simp only [Act.put, List.setIfInBounds_toArray, List.set_cons_zero, List.set_cons_succ])
                        iterate 2 (refine sch_take ?_ rfl ?_ ?_; rotate_left; (focus (intro u hu; go_simp <;> rfl)); simp only [Act.put, List.setIfInBounds_toArray, List.set_cons_zero, List.set_cons_succ])
                        (refine sch_take ?_ rfl ?_ ?_; rotate_left; (focus (intro u hu; subst hu; have c1 := CS.out; go_simp <;> rfl)); simp only [Act.put, List.setIfInBounds_toArray, List.set_cons_zero, List.set_cons_succ])
                        iterate 2 (refine sch_take ?_ rfl ?_ ?_; rotate_left; (focus (intro u hu; go_simp <;> rfl)); simp only [Act.put, List.setIfInBounds_toArray, List.set_cons_zero, List.set_cons_succ])
                        (refine sch_take ?_ rfl ?_ ?_; rotate_left; (focus (intro u hu; subst hu; have c1 := TD.out; go_simp <;> rfl)); simp only [Act.put, List.setIfInBounds_toArray, List.set_cons_zero, List.set_cons_succ])
                        iterate 2 (refine sch_take ?_ rfl ?_ ?_; rotate_left; (focus (intro u hu; go_simp <;> rfl)); simp only [Act.put, List.setIfInBounds_toArray, List.set_cons_zero, List.set_cons_succ])
                        (refine sch_take ?_ rfl ?_ ?_; rotate_left; (focus (intro u hu; subst hu; have c1 := CT.out; go_simp <;> rfl)); simp only [Act.put, List.setIfInBounds_toArray, List.set_cons_zero, List.set_cons_succ])
                        iterate 2 (refine sch_take ?_ rfl ?_ ?_; rotate_left; (focus (intro u hu; go_simp <;> rfl)); simp only [Act.put, List.setIfInBounds_toArray, List.set_cons_zero, List.set_cons_succ])
                        refine sch_nil ?_
                        go_wp2_with fail
                        go_roundw
                        all_goals first
                          | exact ⟨k + 1, by omega, by push_cast; rfl, HSW.out, HTW.out, HBW.out, HLW.out, HWW.out⟩
                          | (show (spOr l l2).length - ((k : Int) + 1).toNat < (spOr l l2).length - (k : Int).toNat; omega)
                      | false =>
                        go_wp2_with fail
                        refine wp_region_R (R := fun x y => x = y) (by kernel_rfl) (fun _ => rfl) (fun h k => h.trans k) (by kernel_rfl) (fun d v c a w h => by cases d <;> exact h)
                          [(0, false), (1, false), (2, false), (3, false), (4, false), (5, false), (6, false), (7, false), (8, false), (9, false), (10, false), (11, false), (12, false), (13, false), (14, false), (15, false), (16, false), (17, false)] rfl (by kernel_rfl) (by kernel_rfl) ?_
                        simp only [sel, List.getElem?_toArray, List.getElem?_cons_succ, List.getElem?_cons_zero]
                        generalize wr.drew = wd at *
                        (refine sch_take ?_ rfl ?_ ?_; rotate_left; (focus (intro u hu; go_simp <;> rfl)); simp only [Act.put, List.setIfInBounds_toArray, List.set_cons_zero, List.set_cons_succ])
                        (refine sch_take ?_ rfl ?_ ?_; rotate_left; (focus (intro u hu; subst hu; have c1 := BD.out; go_simp <;> rfl)); simp only [Act.put, List.setIfInBounds_toArray, List.set_cons_zero, List.set_cons_succ])
                        iterate 2 (refine sch_take ?_ rfl ?_ ?_; rotate_left; (focus (intro u hu; go_simp <;> rfl)); simp only [Act.put, List.setIfInBounds_toArray, List.set_cons_zero, List.set_cons_succ])
                        (refine sch_take ?_ rfl ?_ ?_; rotate_left; (focus (intro u hu; subst hu; have c1 := CB.out; go_simp <;> rfl)); simp only [Act.put, List.setIfInBounds_toArray, List.set_cons_zero, List.set_cons_succ])
                        (refine sch_take ?_ rfl ?_ ?_; rotate_left; (focus (intro u hu; go_simp <;> rfl)); simp only [Act.put, List.setIfInBounds_toArray, List.set_cons_zero, List.set_cons_succ])
                        (refine sch_take ?_ rfl ?_ ?_; rotate_left; (focus (intro u hu; subst hu; have c1 := SD.out; go_simp <;> rfl)); simp only [Act.put, List.setIfInBounds_toArray, List.set_cons_zero, List.set_cons_succ])
                        iterate 2 (refine sch_take ?_ rfl ?_ ?_; rotate_left; (focus (intro u hu; go_simp <;> rfl)); simp only [Act.put, List.setIfInBounds_toArray, List.set_cons_zero, List.set_cons_succ])
                        (refine sch_take ?_ rfl ?_ ?_; rotate_left; (focus (intro u hu; subst hu; have c1 := CS.out; go_simp <;> rfl)); simp only [Act.put, List.setIfInBounds_toArray, List.set_cons_zero, List.set_cons_succ])
                        iterate 2 (refine sch_take ?_ rfl ?_ ?_; rotate_left; (focus (intro u hu; go_simp <;> rfl)); simp only [Act.put, List.setIfInBounds_toArray, List.set_cons_zero, List.set_cons_succ])
                        (refine sch_take ?_ rfl ?_ ?_; rotate_left; (focus (intro u hu; subst hu; have c1 := TD.out; go_simp <;> rfl)); simp only [Act.put, List.setIfInBounds_toArray, List.set_cons_zero, List.set_cons_succ])
                        iterate 2 (refine sch_take ?_ rfl ?_ ?_; rotate_left; (focus (intro u hu; go_simp <;> rfl)); simp only [Act.put, List.setIfInBounds_toArray, List.set_cons_zero, List.set_cons_succ])
                        (refine sch_take ?_ rfl ?_ ?_; rotate_left; (focus (intro u hu; subst hu; have c1 := CT.out; go_simp <;> rfl)); simp only [Act.put, List.setIfInBounds_toArray, List.set_cons_zero, List.set_cons_succ])
                        iterate 2 (refine sch_take ?_ rfl ?_ ?_; rotate_left; (focus (intro u hu; go_simp <;> rfl)); simp only [Act.put, List.setIfInBounds_toArray, List.set_cons_zero, List.set_cons_succ])
                        refine sch_nil ?_
                        go_wp2_with fail
                        go_roundw
                        all_goals first
                          | exact ⟨k + 1, by omega, by push_cast; rfl, HSW.out, HTW.out, HBW.out, HLW.out, HWW.out⟩
                          | (show (spOr l l2).length - ((k : Int) + 1).toNat < (spOr l l2).length - (k : Int).toNat; omega)
                  · have hkn : ¬ (k : Int) < (n24 : Int) := by omega
                    go_wp2_with fail
                    go_ret
                    exact ⟨rfl, HW1.out⟩
              · have HBS : Hid (spBoth p l q l2 = (0, [], 2)) := if_pos (.inr (.inr hpq))
                have HC2 : Hid ((if spOk q l2 then (0 : Int) else 2) = 0) := if_pos hom
                have hqp : q ≠ p := fun h => hpq h.symm
                clear hom
                have pS := S20.out.c0
                have rS := S20.out.c1
                have pT := T20.out.c0
                have rT := T20.out.c1
                have pN := N20.out.c0
                have rN := N20.out.c1
                go_wp2_with fail
                clear pS rS pT rT pN rN
                refine (HTN.out ▸ spTake_any w20 p _ m LN20.out HML.out).mono ?_
                rintro e w21 ⟨x21, rfl, hx21, hb21⟩
                obtain ⟨A21, n21, c21, rfl, _, _, _⟩ := hx21.boos.form
                have HB21 : Hid (Below w.heap.size w w21) := HB20.out.trans (hb21.mono HB20.out.size)
                have LS21 : Hid (Boos w21 (.slice A n c) l) := LS20.out.below hb21
                have LT21 : Hid (Boos w21 (.slice A2 n2 c2) l2) := LT20.out.below hb21
                have LN21 : Hid (Boos w21 (.slice An nn cn) m) := LN20.out.below hb21
                have FV21 : Hid (Rowz w21 (.slice Af k cf) (natC (spFree l))) := FV20.out.below hb21
                have S21 : Hid (SpBox w21 (w.heap.size) (p) (.slice A n c)) := S20.out.below hb21
                have T21 : Hid (SpBox w21 (w.heap.size + 1) (q) (.slice A2 n2 c2)) := T20.out.below hb21
                have N21 : Hid (SpBox w21 (w3.heap.size) (p) (.slice An nn cn)) := N20.out.below hb21
                obtain ⟨w22, hw22⟩ : ∃ u, (w21.alloc (.cells #[.int .i64 (0), .slice A21 n21 c21] 24)) = u := ⟨_, rfl⟩
                have HW22 := Lib.hid hw22
                have hb22 : Below w21.heap.size w21 w22 := hw22 ▸ below_new _ _
                have HB22 : Hid (Below w.heap.size w w22) := HB21.out.trans (hb22.mono HB21.out.size)
                have LS22 : Hid (Boos w22 (.slice A n c) l) := LS21.out.below hb22
                have LT22 : Hid (Boos w22 (.slice A2 n2 c2) l2) := LT21.out.below hb22
                have LN22 : Hid (Boos w22 (.slice An nn cn) m) := LN21.out.below hb22
                have FV22 : Hid (Rowz w22 (.slice Af k cf) (natC (spFree l))) := FV21.out.below hb22
                have S22 : Hid (SpBox w22 (w.heap.size) (p) (.slice A n c)) := S21.out.below hb22
                have T22 : Hid (SpBox w22 (w.heap.size + 1) (q) (.slice A2 n2 c2)) := T21.out.below hb22
                have N22 : Hid (SpBox w22 (w3.heap.size) (p) (.slice An nn cn)) := N21.out.below hb22
                have X22 : Hid (SpBox w22 w21.heap.size (0) (.slice A21 n21 c21)) := hw22 ▸ SBox.new w21 24 [.int .i64 (0), .slice A21 n21 c21]
                have LX22 : Hid (Boos w22 (.slice A21 n21 c21) ([])) := hw22 ▸ Rowz.alloc hx21.boos _
                clear hx21 hb21 hw22 hb22
                have pS : (w21.alloc (.cells #[.int .i64 (0), .slice A21 n21 c21] 24)).cell? ⟨w.heap.size, 0, none⟩ = some (.int .i64 (p)) := by rw [HW22.out]; exact S22.out.c0
                have rS : (w21.alloc (.cells #[.int .i64 (0), .slice A21 n21 c21] 24)).cell? ⟨w.heap.size, 1, none⟩ = some (.slice A n c) := by rw [HW22.out]; exact S22.out.c1
                have pT : (w21.alloc (.cells #[.int .i64 (0), .slice A21 n21 c21] 24)).cell? ⟨w.heap.size + 1, 0, none⟩ = some (.int .i64 (q)) := by rw [HW22.out]; exact T22.out.c0
                have rT : (w21.alloc (.cells #[.int .i64 (0), .slice A21 n21 c21] 24)).cell? ⟨w.heap.size + 1, 1, none⟩ = some (.slice A2 n2 c2) := by rw [HW22.out]; exact T22.out.c1
                have pN : (w21.alloc (.cells #[.int .i64 (0), .slice A21 n21 c21] 24)).cell? ⟨w3.heap.size, 0, none⟩ = some (.int .i64 (p)) := by rw [HW22.out]; exact N22.out.c0
                have rN : (w21.alloc (.cells #[.int .i64 (0), .slice A21 n21 c21] 24)).cell? ⟨w3.heap.size, 1, none⟩ = some (.slice An nn cn) := by rw [HW22.out]; exact N22.out.c1
                go_wp2_with fail
                rw [HW22.out]
                clear pS rS pT rT pN rN
                refine (HFL.out ▸ spCount_any w22 p _ l LS22.out HLL.out).mono ?_
                rintro e w23 ⟨rfl, hb23⟩
                have HB23 : Hid (Below w.heap.size w w23) := HB22.out.trans (hb23.mono HB22.out.size)
                have LS23 : Hid (Boos w23 (.slice A n c) l) := LS22.out.below hb23
                have LT23 : Hid (Boos w23 (.slice A2 n2 c2) l2) := LT22.out.below hb23
                have LN23 : Hid (Boos w23 (.slice An nn cn) m) := LN22.out.below hb23
                have FV23 : Hid (Rowz w23 (.slice Af k cf) (natC (spFree l))) := FV22.out.below hb23
                have LX23 : Hid (Boos w23 (.slice A21 n21 c21) ([])) := LX22.out.below hb23
                have S23 : Hid (SpBox w23 (w.heap.size) (p) (.slice A n c)) := S22.out.below hb23
                have T23 : Hid (SpBox w23 (w.heap.size + 1) (q) (.slice A2 n2 c2)) := T22.out.below hb23
                have N23 : Hid (SpBox w23 (w3.heap.size) (p) (.slice An nn cn)) := N22.out.below hb23
                have X23 : Hid (SpBox w23 (w21.heap.size) (0) (.slice A21 n21 c21)) := X22.out.below hb23
                clear hb23
                have pS := S23.out.c0
                have rS := S23.out.c1
                have pT := T23.out.c0
                have rT := T23.out.c1
                have pN := N23.out.c0
                have rN := N23.out.c1
                have pX := X23.out.c0
                have rX := X23.out.c1
                go_wp2_with fail
                clear pS rS pT rT pN rN pX rX
                refine (HBS.out ▸ spBoth_any w23 p q _ _ l l2 LS23.out LT23.out HLL.out HLM.out).mono ?_
                rintro e w24 ⟨x24, rfl, hx24, hb24⟩
                obtain ⟨A24, n24, c24, rfl, _, _, _⟩ := hx24.boos.form
                have HB24 : Hid (Below w.heap.size w w24) := HB23.out.trans (hb24.mono HB23.out.size)
                have LS24 : Hid (Boos w24 (.slice A n c) l) := LS23.out.below hb24
                have LT24 : Hid (Boos w24 (.slice A2 n2 c2) l2) := LT23.out.below hb24
                have LN24 : Hid (Boos w24 (.slice An nn cn) m) := LN23.out.below hb24
                have FV24 : Hid (Rowz w24 (.slice Af k cf) (natC (spFree l))) := FV23.out.below hb24
                have LX24 : Hid (Boos w24 (.slice A21 n21 c21) ([])) := LX23.out.below hb24
                have S24 : Hid (SpBox w24 (w.heap.size) (p) (.slice A n c)) := S23.out.below hb24
                have T24 : Hid (SpBox w24 (w.heap.size + 1) (q) (.slice A2 n2 c2)) := T23.out.below hb24
                have N24 : Hid (SpBox w24 (w3.heap.size) (p) (.slice An nn cn)) := N23.out.below hb24
                have X24 : Hid (SpBox w24 (w21.heap.size) (0) (.slice A21 n21 c21)) := X23.out.below hb24
                obtain ⟨w25, hw25⟩ : ∃ u, (w24.alloc (.cells #[.int .i64 (0), .slice A24 n24 c24] 24)) = u := ⟨_, rfl⟩
                have HW25 := Lib.hid hw25
                have hb25 : Below w24.heap.size w24 w25 := hw25 ▸ below_new _ _
                have HB25 : Hid (Below w.heap.size w w25) := HB24.out.trans (hb25.mono HB24.out.size)
                have LS25 : Hid (Boos w25 (.slice A n c) l) := LS24.out.below hb25
                have LT25 : Hid (Boos w25 (.slice A2 n2 c2) l2) := LT24.out.below hb25
                have LN25 : Hid (Boos w25 (.slice An nn cn) m) := LN24.out.below hb25
                have FV25 : Hid (Rowz w25 (.slice Af k cf) (natC (spFree l))) := FV24.out.below hb25
                have LX25 : Hid (Boos w25 (.slice A21 n21 c21) ([])) := LX24.out.below hb25
                have S25 : Hid (SpBox w25 (w.heap.size) (p) (.slice A n c)) := S24.out.below hb25
                have T25 : Hid (SpBox w25 (w.heap.size + 1) (q) (.slice A2 n2 c2)) := T24.out.below hb25
                have N25 : Hid (SpBox w25 (w3.heap.size) (p) (.slice An nn cn)) := N24.out.below hb25
                have X25 : Hid (SpBox w25 (w21.heap.size) (0) (.slice A21 n21 c21)) := X24.out.below hb25
                have B25 : Hid (SpBox w25 w24.heap.size (0) (.slice A24 n24 c24)) := hw25 ▸ SBox.new w24 24 [.int .i64 (0), .slice A24 n24 c24]
                have LB25 : Hid (Boos w25 (.slice A24 n24 c24) ([])) := hw25 ▸ Rowz.alloc hx24.boos _
                clear hx24 hb24 hw25 hb25
                have pS : (w24.alloc (.cells #[.int .i64 (0), .slice A24 n24 c24] 24)).cell? ⟨w.heap.size, 0, none⟩ = some (.int .i64 (p)) := by rw [HW25.out]; exact S25.out.c0
                have rS : (w24.alloc (.cells #[.int .i64 (0), .slice A24 n24 c24] 24)).cell? ⟨w.heap.size, 1, none⟩ = some (.slice A n c) := by rw [HW25.out]; exact S25.out.c1
                have pT : (w24.alloc (.cells #[.int .i64 (0), .slice A24 n24 c24] 24)).cell? ⟨w.heap.size + 1, 0, none⟩ = some (.int .i64 (q)) := by rw [HW25.out]; exact T25.out.c0
                have rT : (w24.alloc (.cells #[.int .i64 (0), .slice A24 n24 c24] 24)).cell? ⟨w.heap.size + 1, 1, none⟩ = some (.slice A2 n2 c2) := by rw [HW25.out]; exact T25.out.c1
                have pN : (w24.alloc (.cells #[.int .i64 (0), .slice A24 n24 c24] 24)).cell? ⟨w3.heap.size, 0, none⟩ = some (.int .i64 (p)) := by rw [HW25.out]; exact N25.out.c0
                have rN : (w24.alloc (.cells #[.int .i64 (0), .slice A24 n24 c24] 24)).cell? ⟨w3.heap.size, 1, none⟩ = some (.slice An nn cn) := by rw [HW25.out]; exact N25.out.c1
                have pX : (w24.alloc (.cells #[.int .i64 (0), .slice A24 n24 c24] 24)).cell? ⟨w21.heap.size, 0, none⟩ = some (.int .i64 (0)) := by rw [HW25.out]; exact X25.out.c0
                have rX : (w24.alloc (.cells #[.int .i64 (0), .slice A24 n24 c24] 24)).cell? ⟨w21.heap.size, 1, none⟩ = some (.slice A21 n21 c21) := by rw [HW25.out]; exact X25.out.c1
                go_wp2_with fail
                rw [HW25.out]
                clear pS rS pT rT pN rN pX rX
                refine (HC2.out ▸ spcheck_any w25 q _ l2 LT25.out HLM.out).mono ?_
                rintro e w26 ⟨rfl, hb26⟩
                have HB26 : Hid (Below w.heap.size w w26) := HB25.out.trans (hb26.mono HB25.out.size)
                have LS26 : Hid (Boos w26 (.slice A n c) l) := LS25.out.below hb26
                have LT26 : Hid (Boos w26 (.slice A2 n2 c2) l2) := LT25.out.below hb26
                have LN26 : Hid (Boos w26 (.slice An nn cn) m) := LN25.out.below hb26
                have FV26 : Hid (Rowz w26 (.slice Af k cf) (natC (spFree l))) := FV25.out.below hb26
                have LX26 : Hid (Boos w26 (.slice A21 n21 c21) ([])) := LX25.out.below hb26
                have LB26 : Hid (Boos w26 (.slice A24 n24 c24) ([])) := LB25.out.below hb26
                have S26 : Hid (SpBox w26 (w.heap.size) (p) (.slice A n c)) := S25.out.below hb26
                have T26 : Hid (SpBox w26 (w.heap.size + 1) (q) (.slice A2 n2 c2)) := T25.out.below hb26
                have N26 : Hid (SpBox w26 (w3.heap.size) (p) (.slice An nn cn)) := N25.out.below hb26
                have X26 : Hid (SpBox w26 (w21.heap.size) (0) (.slice A21 n21 c21)) := X25.out.below hb26
                have B26 : Hid (SpBox w26 (w24.heap.size) (0) (.slice A24 n24 c24)) := B25.out.below hb26
                clear hb26
                have pS := S26.out.c0
                have rS := S26.out.c1
                have pT := T26.out.c0
                have rT := T26.out.c1
                have pN := N26.out.c0
                have rN := N26.out.c1
                have pX := X26.out.c0
                have rX := X26.out.c1
                have pB := B26.out.c0
                have rB := B26.out.c1
                go_wp2_with fail
                clear pS rS pT rT pN rN pX rX pB rB
                go_ret
                exact ⟨by show Ending.returned (.bool (q != p)) = _; rw [show (q != p) = true from bne_iff_ne.2 hqp], HB26.out⟩
            · have HBS : Hid (spBoth p l q l2 = (0, [], 2)) := if_pos (.inr (.inl hom))
              have HC2 : Hid ((if spOk q l2 then (0 : Int) else 2) = 2) := if_neg hom
              clear hom
              have pS := S20.out.c0
              have rS := S20.out.c1
              have pT := T20.out.c0
              have rT := T20.out.c1
              have pN := N20.out.c0
              have rN := N20.out.c1
              go_wp2_with fail
              clear pS rS pT rT pN rN
              refine (HTN.out ▸ spTake_any w20 p _ m LN20.out HML.out).mono ?_
              rintro e w21 ⟨x21, rfl, hx21, hb21⟩
              obtain ⟨A21, n21, c21, rfl, _, _, _⟩ := hx21.boos.form
              have HB21 : Hid (Below w.heap.size w w21) := HB20.out.trans (hb21.mono HB20.out.size)
              have LS21 : Hid (Boos w21 (.slice A n c) l) := LS20.out.below hb21
              have LT21 : Hid (Boos w21 (.slice A2 n2 c2) l2) := LT20.out.below hb21
              have LN21 : Hid (Boos w21 (.slice An nn cn) m) := LN20.out.below hb21
              have FV21 : Hid (Rowz w21 (.slice Af k cf) (natC (spFree l))) := FV20.out.below hb21
              have S21 : Hid (SpBox w21 (w.heap.size) (p) (.slice A n c)) := S20.out.below hb21
              have T21 : Hid (SpBox w21 (w.heap.size + 1) (q) (.slice A2 n2 c2)) := T20.out.below hb21
              have N21 : Hid (SpBox w21 (w3.heap.size) (p) (.slice An nn cn)) := N20.out.below hb21
              obtain ⟨w22, hw22⟩ : ∃ u, (w21.alloc (.cells #[.int .i64 (0), .slice A21 n21 c21] 24)) = u := ⟨_, rfl⟩
              have HW22 := Lib.hid hw22
              have hb22 : Below w21.heap.size w21 w22 := hw22 ▸ below_new _ _
              have HB22 : Hid (Below w.heap.size w w22) := HB21.out.trans (hb22.mono HB21.out.size)
              have LS22 : Hid (Boos w22 (.slice A n c) l) := LS21.out.below hb22
              have LT22 : Hid (Boos w22 (.slice A2 n2 c2) l2) := LT21.out.below hb22
              have LN22 : Hid (Boos w22 (.slice An nn cn) m) := LN21.out.below hb22
              have FV22 : Hid (Rowz w22 (.slice Af k cf) (natC (spFree l))) := FV21.out.below hb22
              have S22 : Hid (SpBox w22 (w.heap.size) (p) (.slice A n c)) := S21.out.below hb22
              have T22 : Hid (SpBox w22 (w.heap.size + 1) (q) (.slice A2 n2 c2)) := T21.out.below hb22
              have N22 : Hid (SpBox w22 (w3.heap.size) (p) (.slice An nn cn)) := N21.out.below hb22
              have X22 : Hid (SpBox w22 w21.heap.size (0) (.slice A21 n21 c21)) := hw22 ▸ SBox.new w21 24 [.int .i64 (0), .slice A21 n21 c21]
              have LX22 : Hid (Boos w22 (.slice A21 n21 c21) ([])) := hw22 ▸ Rowz.alloc hx21.boos _
              clear hx21 hb21 hw22 hb22
              have pS : (w21.alloc (.cells #[.int .i64 (0), .slice A21 n21 c21] 24)).cell? ⟨w.heap.size, 0, none⟩ = some (.int .i64 (p)) := by rw [HW22.out]; exact S22.out.c0
              have rS : (w21.alloc (.cells #[.int .i64 (0), .slice A21 n21 c21] 24)).cell? ⟨w.heap.size, 1, none⟩ = some (.slice A n c) := by rw [HW22.out]; exact S22.out.c1
              have pT : (w21.alloc (.cells #[.int .i64 (0), .slice A21 n21 c21] 24)).cell? ⟨w.heap.size + 1, 0, none⟩ = some (.int .i64 (q)) := by rw [HW22.out]; exact T22.out.c0
              have rT : (w21.alloc (.cells #[.int .i64 (0), .slice A21 n21 c21] 24)).cell? ⟨w.heap.size + 1, 1, none⟩ = some (.slice A2 n2 c2) := by rw [HW22.out]; exact T22.out.c1
              have pN : (w21.alloc (.cells #[.int .i64 (0), .slice A21 n21 c21] 24)).cell? ⟨w3.heap.size, 0, none⟩ = some (.int .i64 (p)) := by rw [HW22.out]; exact N22.out.c0
              have rN : (w21.alloc (.cells #[.int .i64 (0), .slice A21 n21 c21] 24)).cell? ⟨w3.heap.size, 1, none⟩ = some (.slice An nn cn) := by rw [HW22.out]; exact N22.out.c1
              go_wp2_with fail
              rw [HW22.out]
              clear pS rS pT rT pN rN
              refine (HFL.out ▸ spCount_any w22 p _ l LS22.out HLL.out).mono ?_
              rintro e w23 ⟨rfl, hb23⟩
              have HB23 : Hid (Below w.heap.size w w23) := HB22.out.trans (hb23.mono HB22.out.size)
              have LS23 : Hid (Boos w23 (.slice A n c) l) := LS22.out.below hb23
              have LT23 : Hid (Boos w23 (.slice A2 n2 c2) l2) := LT22.out.below hb23
              have LN23 : Hid (Boos w23 (.slice An nn cn) m) := LN22.out.below hb23
              have FV23 : Hid (Rowz w23 (.slice Af k cf) (natC (spFree l))) := FV22.out.below hb23
              have LX23 : Hid (Boos w23 (.slice A21 n21 c21) ([])) := LX22.out.below hb23
              have S23 : Hid (SpBox w23 (w.heap.size) (p) (.slice A n c)) := S22.out.below hb23
              have T23 : Hid (SpBox w23 (w.heap.size + 1) (q) (.slice A2 n2 c2)) := T22.out.below hb23
              have N23 : Hid (SpBox w23 (w3.heap.size) (p) (.slice An nn cn)) := N22.out.below hb23
              have X23 : Hid (SpBox w23 (w21.heap.size) (0) (.slice A21 n21 c21)) := X22.out.below hb23
              clear hb23
              have pS := S23.out.c0
              have rS := S23.out.c1
              have pT := T23.out.c0
              have rT := T23.out.c1
              have pN := N23.out.c0
              have rN := N23.out.c1
              have pX := X23.out.c0
              have rX := X23.out.c1
              go_wp2_with fail
              clear pS rS pT rT pN rN pX rX
              refine (HBS.out ▸ spBoth_any w23 p q _ _ l l2 LS23.out LT23.out HLL.out HLM.out).mono ?_
              rintro e w24 ⟨x24, rfl, hx24, hb24⟩
              obtain ⟨A24, n24, c24, rfl, _, _, _⟩ := hx24.boos.form
              have HB24 : Hid (Below w.heap.size w w24) := HB23.out.trans (hb24.mono HB23.out.size)
              have LS24 : Hid (Boos w24 (.slice A n c) l) := LS23.out.below hb24
              have LT24 : Hid (Boos w24 (.slice A2 n2 c2) l2) := LT23.out.below hb24
              have LN24 : Hid (Boos w24 (.slice An nn cn) m) := LN23.out.below hb24
              have FV24 : Hid (Rowz w24 (.slice Af k cf) (natC (spFree l))) := FV23.out.below hb24
              have LX24 : Hid (Boos w24 (.slice A21 n21 c21) ([])) := LX23.out.below hb24
              have S24 : Hid (SpBox w24 (w.heap.size) (p) (.slice A n c)) := S23.out.below hb24
              have T24 : Hid (SpBox w24 (w.heap.size + 1) (q) (.slice A2 n2 c2)) := T23.out.below hb24
              have N24 : Hid (SpBox w24 (w3.heap.size) (p) (.slice An nn cn)) := N23.out.below hb24
              have X24 : Hid (SpBox w24 (w21.heap.size) (0) (.slice A21 n21 c21)) := X23.out.below hb24
              obtain ⟨w25, hw25⟩ : ∃ u, (w24.alloc (.cells #[.int .i64 (0), .slice A24 n24 c24] 24)) = u := ⟨_, rfl⟩
              have HW25 := Lib.hid hw25
              have hb25 : Below w24.heap.size w24 w25 := hw25 ▸ below_new _ _
              have HB25 : Hid (Below w.heap.size w w25) := HB24.out.trans (hb25.mono HB24.out.size)
              have LS25 : Hid (Boos w25 (.slice A n c) l) := LS24.out.below hb25
              have LT25 : Hid (Boos w25 (.slice A2 n2 c2) l2) := LT24.out.below hb25
              have LN25 : Hid (Boos w25 (.slice An nn cn) m) := LN24.out.below hb25
              have FV25 : Hid (Rowz w25 (.slice Af k cf) (natC (spFree l))) := FV24.out.below hb25
              have LX25 : Hid (Boos w25 (.slice A21 n21 c21) ([])) := LX24.out.below hb25
              have S25 : Hid (SpBox w25 (w.heap.size) (p) (.slice A n c)) := S24.out.below hb25
              have T25 : Hid (SpBox w25 (w.heap.size + 1) (q) (.slice A2 n2 c2)) := T24.out.below hb25
              have N25 : Hid (SpBox w25 (w3.heap.size) (p) (.slice An nn cn)) := N24.out.below hb25
              have X25 : Hid (SpBox w25 (w21.heap.size) (0) (.slice A21 n21 c21)) := X24.out.below hb25
              have B25 : Hid (SpBox w25 w24.heap.size (0) (.slice A24 n24 c24)) := hw25 ▸ SBox.new w24 24 [.int .i64 (0), .slice A24 n24 c24]
              have LB25 : Hid (Boos w25 (.slice A24 n24 c24) ([])) := hw25 ▸ Rowz.alloc hx24.boos _
              clear hx24 hb24 hw25 hb25
              have pS : (w24.alloc (.cells #[.int .i64 (0), .slice A24 n24 c24] 24)).cell? ⟨w.heap.size, 0, none⟩ = some (.int .i64 (p)) := by rw [HW25.out]; exact S25.out.c0
              have rS : (w24.alloc (.cells #[.int .i64 (0), .slice A24 n24 c24] 24)).cell? ⟨w.heap.size, 1, none⟩ = some (.slice A n c) := by rw [HW25.out]; exact S25.out.c1
              have pT : (w24.alloc (.cells #[.int .i64 (0), .slice A24 n24 c24] 24)).cell? ⟨w.heap.size + 1, 0, none⟩ = some (.int .i64 (q)) := by rw [HW25.out]; exact T25.out.c0
              have rT : (w24.alloc (.cells #[.int .i64 (0), .slice A24 n24 c24] 24)).cell? ⟨w.heap.size + 1, 1, none⟩ = some (.slice A2 n2 c2) := by rw [HW25.out]; exact T25.out.c1
              have pN : (w24.alloc (.cells #[.int .i64 (0), .slice A24 n24 c24] 24)).cell? ⟨w3.heap.size, 0, none⟩ = some (.int .i64 (p)) := by rw [HW25.out]; exact N25.out.c0
              have rN : (w24.alloc (.cells #[.int .i64 (0), .slice A24 n24 c24] 24)).cell? ⟨w3.heap.size, 1, none⟩ = some (.slice An nn cn) := by rw [HW25.out]; exact N25.out.c1
              have pX : (w24.alloc (.cells #[.int .i64 (0), .slice A24 n24 c24] 24)).cell? ⟨w21.heap.size, 0, none⟩ = some (.int .i64 (0)) := by rw [HW25.out]; exact X25.out.c0
              have rX : (w24.alloc (.cells #[.int .i64 (0), .slice A24 n24 c24] 24)).cell? ⟨w21.heap.size, 1, none⟩ = some (.slice A21 n21 c21) := by rw [HW25.out]; exact X25.out.c1
              go_wp2_with fail
              rw [HW25.out]
              clear pS rS pT rT pN rN pX rX
              refine (HC2.out ▸ spcheck_any w25 q _ l2 LT25.out HLM.out).mono ?_
              rintro e w26 ⟨rfl, hb26⟩
              have HB26 : Hid (Below w.heap.size w w26) := HB25.out.trans (hb26.mono HB25.out.size)
              have LS26 : Hid (Boos w26 (.slice A n c) l) := LS25.out.below hb26
              have LT26 : Hid (Boos w26 (.slice A2 n2 c2) l2) := LT25.out.below hb26
              have LN26 : Hid (Boos w26 (.slice An nn cn) m) := LN25.out.below hb26
              have FV26 : Hid (Rowz w26 (.slice Af k cf) (natC (spFree l))) := FV25.out.below hb26
              have LX26 : Hid (Boos w26 (.slice A21 n21 c21) ([])) := LX25.out.below hb26
              have LB26 : Hid (Boos w26 (.slice A24 n24 c24) ([])) := LB25.out.below hb26
              have S26 : Hid (SpBox w26 (w.heap.size) (p) (.slice A n c)) := S25.out.below hb26
              have T26 : Hid (SpBox w26 (w.heap.size + 1) (q) (.slice A2 n2 c2)) := T25.out.below hb26
              have N26 : Hid (SpBox w26 (w3.heap.size) (p) (.slice An nn cn)) := N25.out.below hb26
              have X26 : Hid (SpBox w26 (w21.heap.size) (0) (.slice A21 n21 c21)) := X25.out.below hb26
              have B26 : Hid (SpBox w26 (w24.heap.size) (0) (.slice A24 n24 c24)) := B25.out.below hb26
              clear hb26
              have pS := S26.out.c0
              have rS := S26.out.c1
              have pT := T26.out.c0
              have rT := T26.out.c1
              have pN := N26.out.c0
              have rN := N26.out.c1
              have pX := X26.out.c0
              have rX := X26.out.c1
              have pB := B26.out.c0
              have rB := B26.out.c1
              go_wp2_with fail
              clear pS rS pT rT pN rN pX rX pB rB
              go_ret
              exact ⟨rfl, HB26.out⟩
      · have HCS : Hid ((if spOk p l then (0 : Int) else 2) = 2) := if_neg hok
        clear hok
        go_enter Try.func5, Try.ntmps5
        go_wp2_with fail
        rw [HW0.out]
        refine (lives8_any w0).mono ?_
        rintro e w1 ⟨rfl, hb1⟩
        have HB1 : Hid (Below w.heap.size w w1) := HB0.out.trans (hb1.mono HB0.out.size)
        have LS1 : Hid (Boos w1 (.slice A n c) l) := LS0.out.below hb1
        have LT1 : Hid (Boos w1 (.slice A2 n2 c2) l2) := LT0.out.below hb1
        have S1 : Hid (SpBox w1 (w.heap.size) (p) (.slice A n c)) := S0.out.below hb1
        have T1 : Hid (SpBox w1 (w.heap.size + 1) (q) (.slice A2 n2 c2)) := T0.out.below hb1
        clear hb1
        have pS := S1.out.c0
        have rS := S1.out.c1
        have pT := T1.out.c0
        have rT := T1.out.c1
        go_wp2_with fail
        clear pS rS pT rT
        refine (HCS.out ▸ spcheck_any w1 p _ l LS1.out HLL.out).mono ?_
        rintro e w2 ⟨rfl, hb2⟩
        have HB2 : Hid (Below w.heap.size w w2) := HB1.out.trans (hb2.mono HB1.out.size)
        have LS2 : Hid (Boos w2 (.slice A n c) l) := LS1.out.below hb2
        have LT2 : Hid (Boos w2 (.slice A2 n2 c2) l2) := LT1.out.below hb2
        have S2 : Hid (SpBox w2 (w.heap.size) (p) (.slice A n c)) := S1.out.below hb2
        have T2 : Hid (SpBox w2 (w.heap.size + 1) (q) (.slice A2 n2 c2)) := T1.out.below hb2
        clear hb2
        have pS := S2.out.c0
        have rS := S2.out.c1
        have pT := T2.out.c0
        have rT := T2.out.c1
        go_wp2_with fail
        clear pS rS pT rT
        go_ret
        exact ⟨rfl, HB2.out⟩

set_option maxRecDepth 100000 in
theorem lifted (os : Os) (started : os.Started) (H : Type) (enc : TypeId × Value → H) :
    ReturnsInHanded {} Try.checked os 5 .any (Rows.spaceTakesSpec.pre6 enc Try.prog Try.f5 Rows.spaceTakesRow.domain false) (Rows.spaceTakesSpec.post enc Try.prog Try.f5 false true false false) := by
  refine returnsInHanded_of_change (C := Try.checked) ownKnobs started (by kernel_rfl) Try.func5
    (ChangeSpec.witness6 (enc := enc) (C := Try.checked) false ⟨#[], #[.agg #[.int .i64 0, .slice none 0 0], .agg #[.int .i64 0, .slice none 0 0]], []⟩ 8 (by kernel_rfl) (by kernel_rfl) (by kernel_rfl) (by kernel_rfl)) ?_
  intro W base args ds gs before hval0 hW hcnd _
  have hval : ∀ (j : Nat) t v, Try.f5.params[j]? = some t → args[j]? = some v → Value.okWide Try.prog W .any base t v := hval0
  have hW' := hW
  obtain ⟨p, q, hA0, hV, rfl, hfz, hnd⟩ := hW
  have hA : DataW.TrodAll enc Try.prog W 0 (fun _ => true) true Try.f5.params.toList args.toList ds p := hA0
  rw [Try.params5] at hA hval
  obtain ⟨v0, vs0, d0, ds0, p0, q0, hargs, rfl, rfl, h0, r0⟩ := trodAll_cons hA
  obtain ⟨v1, vs1, d1, ds1, p1, q1, rfl, rfl, rfl, h1, r1⟩ := trodAll_cons r0
  obtain ⟨rfl, rfl, rfl⟩ := trodAll_nil r1
  obtain rfl : args = #[v0, v1] := by cases args; simp_all
  obtain ⟨rfl, rfl⟩ := trodVars_none hV
  have k0 := h0
  have lt0 : ∀ x ∈ p0, x.block < W.heap.size := by obtain ⟨m, hm⟩ := k0; exact DataW.trod_lt m _ _ _ hm
  obtain ⟨sp0, sv0, sl0, rfl, b0, sb0⟩ := open_space (hval 0 24 v0 rfl rfl) h0
  have k1 := h1
  have lt1 : ∀ x ∈ p1, x.block < W.heap.size := by obtain ⟨m, hm⟩ := k1; exact DataW.trod_lt m _ _ _ hm
  obtain ⟨sp1, sv1, sl1, rfl, b1, sb1⟩ := open_space (hval 1 24 v1 rfl rfl) h1
  clear hA0 hval0
  refine (walk W sp0 sv0 sl0 sp1 sv1 sl1 b0 sb0 b1 sb1).mono fun e W' ⟨he, bel⟩ => ?_
  subst he
  exact ⟨_, rfl, _, _, _, [], _, [], hW', trodAll_mk1 (shut_bool Try.underlying4 _), (trodAll_cons_mk (Below.trod laidOuts (by kernel_rfl) (of_decide_eq_true (by kernel_rfl)) k0 bel lt0) (trodAll_cons_mk (Below.trod laidOuts (by kernel_rfl) (of_decide_eq_true (by kernel_rfl)) k1 bel lt1) trodAll_mk0)), rfl, bel.frame _, fun h => by cases h⟩

theorem over : Rows.spaceTakesRow.holds Try.pinned (OpenSpec.ofChange Rows.spaceTakesSpec) :=
  OpenClaim.holds_of_wide 5 Try.f5 rfl rfl rfl rfl rfl rfl rfl ⟨rfl, rfl, rfl, rfl, rfl⟩ rfl rfl rfl rfl rfl (by kernel_rfl) Try.func5 (by kernel_rfl)
    (of_decide_eq_true (by kernel_rfl)) (by unfold Func.isWrapper; first | (rw [if_pos (by decide +kernel)]; kernel_rfl) | (rw [if_neg (by decide +kernel)]; exact ⟨rfl, rfl⟩))
    (fun os started H enc _ => lifted os started H enc)

theorem proved : Rows.SpaceTakesSaid := over
#print axioms proved
end Go.Proofs.Ytncjobeahpjnpaa.spaceTakes

