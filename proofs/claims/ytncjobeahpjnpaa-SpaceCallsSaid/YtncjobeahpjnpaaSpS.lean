/-
  tallymanref08.Bytes. Conditions: none.
-/
import Derived.Test.YtncjobeahpjnpaaSpR
namespace Go.Proofs.Ytncjobeahpjnpaa
open Go.ChangeShapes Go.WideShapes Go.ChangeAt Go.RowKit Go.Maps
set_option maxRecDepth 100000
set_option linter.unusedVariables false
set_option linter.unusedSimpArgs false

/-! The first k pages' bits. -/
def fK (l : List Bool) (k n : Nat) : Bool := decide (n < k) && (l[n]? == some true)
def rowK (P : Nat) (l : List Bool) (k : Nat) : List UInt8 := wordB 4 P ++ bitsF (spM k) (fK l k)
def rowN (P : Nat) (l : List Bool) (k : Nat) : List UInt8 := wordB 4 P ++ bitsF (spM (k + 1)) (fK l k)
theorem rowK_len (P : Nat) (l : List Bool) (k : Nat) : (rowK P l k).length = 4 + spM k := by rw [rowK, List.length_append, wordB_len, bitsF_len]
theorem rowN_len (P : Nat) (l : List Bool) (k : Nat) : (rowN P l k).length = 5 + k / 8 := by
  rw [rowN, List.length_append, wordB_len, bitsF_len, spM, show (k + 1 + 7) / 8 = k / 8 + 1 by omega]
  omega
theorem rowK_nil (P : Nat) (l : List Bool) : rowK P l 0 = wordB 4 P := by simp [rowK, spM, bitsF]
theorem rowK_all (l : List Bool) : rowK l.length l l.length = spB (l.length : Int) l := by
  unfold rowK spB spBits
  rw [Int.toNat_natCast]
  congr 1
  refine bitsF_congr _ fun n _ => ?_
  unfold fK
  by_cases h : n < l.length
  · rw [decide_eq_true h, Bool.true_and]
  · rw [decide_eq_false h, Bool.false_and, List.getElem?_eq_none (by omega)]
    rfl
theorem rowN_more {P : Nat} {l : List Bool} {k : Nat} (h : k % 8 = 0) : rowN P l k = rowK P l k ++ [0] := by
  unfold rowN rowK
  have e1 : spM (k + 1) = spM k + 1 := by unfold spM; omega
  have e2 : spM k = k / 8 := by unfold spM; omega
  have e3 : bsum (fun i => fK l k (8 * spM k + i)) 8 = 0 := by
    have : bsum (fun i => fK l k (8 * spM k + i)) 8 = bsum (fun _ => false) 8 := bsum_congr 8 fun i hi => by
      unfold fK
      rw [decide_eq_false (by omega), Bool.false_and]
    rw [this]
    rfl
  rw [e1, List.append_assoc]
  congr 1
  unfold bitsF
  rw [List.range_succ, List.map_append, List.map_cons, List.map_nil, e3]
  rfl
theorem rowN_same {P : Nat} {l : List Bool} {k : Nat} (h : k % 8 ≠ 0) : rowN P l k = rowK P l k := by
  unfold rowN rowK
  rw [show spM (k + 1) = spM k by unfold spM; omega]
theorem rowN_free {P : Nat} {l : List Bool} {k : Nat} (h : l[k]? = some false) : rowK P l (k + 1) = rowN P l k := by
  unfold rowN rowK
  congr 2
  funext n
  unfold fK
  by_cases e : n = k
  · subst e
    rw [h]
    simp
  · congr 1
    rw [decide_eq_decide]
    omega
/-- The byte under way. -/
def yK (l : List Bool) (k : Nat) : Nat := bsum (fun i => fK l k (8 * (k / 8) + i)) 8
theorem bsum_add (f : Nat → Bool) (r : Nat) : ∀ d, (∀ i, r ≤ i → f i = false) → bsum f (r + d) = bsum f r
  | 0, _ => rfl
  | d + 1, h => by
    rw [← Nat.add_assoc, bsum, h (r + d) (by omega), bsum_add f r d h]
    simp
theorem yK_lt (l : List Bool) (k : Nat) : yK l k < 2 ^ (k % 8) := by
  unfold yK
  have e := bsum_add (fun i => fK l k (8 * (k / 8) + i)) (k % 8) (8 - k % 8) (fun i hi => by
    show fK l k (8 * (k / 8) + i) = false
    unfold fK
    rw [decide_eq_false (by omega), Bool.false_and])
  rw [show k % 8 + (8 - k % 8) = 8 by omega] at e
  rw [e]
  exact bsum_lt _ _
theorem rowN_set {P : Nat} {l : List Bool} {k : Nat} (h : l[k]? = some true) : rowK P l (k + 1) = (rowN P l k).set (4 + k / 8) (UInt8.ofNat (yK l k ||| 2 ^ (k % 8))) := by
  unfold rowN rowK yK
  rw [List.set_append_right _ _ (by rw [wordB_len]; omega), wordB_len, Nat.add_sub_cancel_left]
  congr 1
  have e : fK l (k + 1) = fun n => fK l k n || n == k := by
    funext n
    unfold fK
    by_cases e : n = k
    · subst e
      rw [h]
      simp
    · have e2 : (n == k) = false := by simpa using e
      rw [e2, Bool.or_false]
      congr 1
      rw [decide_eq_decide]
      omega
  rw [e, bitsF_set]
theorem rowN_at {P : Nat} {l : List Bool} {k : Nat} : ∃ h : 4 + k / 8 < (rowN P l k).length, ((rowN P l k)[4 + k / 8]).toNat = yK l k := by
  have h : 4 + k / 8 < (rowN P l k).length := by rw [rowN_len]; omega
  refine ⟨h, ?_⟩
  have e : (rowN P l k)[4 + k / 8]? = (bitsF (spM (k + 1)) (fK l k))[k / 8]? := by
    unfold rowN
    rw [List.getElem?_append_right (by rw [wordB_len]; omega), wordB_len, Nat.add_sub_cancel_left]
  have h2 : k / 8 < spM (k + 1) := by unfold spM; omega
  rw [List.getElem?_eq_getElem h, List.getElem?_eq_getElem (by rw [bitsF_len]; exact h2), Option.some.injEq] at e
  rw [e, bitsF_nat _ _ _ h2]
  rfl

section
variable {o : Oper} {a : Act} (u : World) (x y : Operand)
theorem add_bit (b k : Nat) (hb : b < 2 ^ k) (hk : k < 8) : IntKind.u8.wrap ((b : Int) + ((2 ^ k : Nat) : Int)) = (((UInt8.ofNat (b ||| 2 ^ k)).toNat : Nat) : Int) := by
  have e : b ||| 2 ^ k = b + 2 ^ k := by
    have := Nat.two_pow_add_eq_or_of_lt hb 1
    rw [Nat.mul_one] at this
    rw [Nat.or_comm, ← this, Nat.add_comm]
  rw [e, UInt8.toNat_ofNat', IntKind.wrap_u8]
  omega
theorem add_bit' (b k : Nat) (hb : b < 2 ^ k) (hk : k < 8) : ((b : Int) + 2 ^ k) % 256 = (((UInt8.ofNat (b ||| 2 ^ k)).toNat : Nat) : Int) := by
  have := add_bit b k hb hk
  rw [IntKind.wrap_u8] at this
  rwa [show (((2 ^ k : Nat) : Int)) = (2 : Int) ^ k by push_cast; rfl] at this
end
def BbRel (w : World) (P : Nat) (v : Value) (l : List Bool) (d i : Value) (u : World) : Prop :=
  ∃ k : Nat, k ≤ P ∧ i = .int .i64 (k : Int) ∧ SpBox u w.heap.size P v ∧ Own u (w.heap.size + 1) 5 d (rowK P l k) ∧ Below w.heap.size w u
set_option maxRecDepth 100000 in
set_option maxHeartbeats 8000000 in
theorem r8Bytes_ok (w : World) (P : Nat) (v : Value) (l : List Bool) (hv : Boos w v l) (hP : P = l.length) (hok : spOk (P : Int) l) :
    Calls Try.prog 24 #[.agg #[.int .i64 (P : Int), v]] w (ByOut w (rowK P l P, 0)) := by
  have hl := spOk_len hok
  obtain ⟨w0, hw0⟩ : ∃ w0, w.alloc (.cells #[.int .i64 (P : Int), v] 24) = w0 := ⟨_, rfl⟩
  have hb0 : Below w.heap.size w w0 := hw0 ▸ below_new w _
  have hA : SpBox w0 w.heap.size P v := hw0 ▸ SBox.new w 24 [.int .i64 (P : Int), v]
  have HCK := Lib.hid (r8check_any w0 (P : Int) v l (hv.below hb0) (by omega))
  rw [if_pos hok] at HCK
  have HV := Lib.hid hv
  obtain ⟨A, n, c, rfl, N, hnc, hcm⟩ := hv.form
  have HW0 := Lib.hid hw0
  have HB0 := Lib.hid hb0
  have HA := Lib.hid hA
  have HPL := Lib.hid hP
  have HP4 : Hid (8 ≤ P ∧ P ≤ 4096) := show 8 ≤ P ∧ P ≤ 4096 by omega
  obtain ⟨i0, hi0, hz0, hz1, hz2⟩ := info_parts uinfo
  have hwrap : IntKind.u64.wrap (P : Int) = (P : Int) := by rw [IntKind.wrap_u64]; omega
  clear hv hw0 hb0 hA hP hok hl
  go_enter Try.func24, Try.ntmps24
  go_wp2_with fail
  rw [HW0.out]
  refine HCK.out.mono ?_
  rintro e w1 ⟨rfl, hb1⟩
  have HA1 : Hid (SpBox w1 w.heap.size P (.slice A n c)) := HA.out.below hb1
  have HB1 : Hid (Below w.heap.size w w1) := HB0.out.trans (hb1.mono HB0.out.size)
  have p0 := HA1.out.c0
  clear hb1
  go_wp2_with fail
  refine (refword_is w1 (.slice none 0 0) [] P 4 (Byt.nil _) (by have := HP4.out; omega) (by omega) (by simp)).mono ?_
  rintro e w2 ⟨v2, rfl, ho2, hb2⟩
  have HA2 : Hid (SpBox w2 w.heap.size P (.slice A n c)) := HA1.out.below hb2
  have HB2 : Hid (Below w.heap.size w w2) := HB1.out.trans (hb2.mono HB1.out.size)
  have HO2 : Hid (Own w2 (w.heap.size + 1) 5 v2 (rowK P l 0)) := by rw [rowK_nil]; exact Own.lower ho2 HA1.out.lt
  clear ho2 hb2 p0 hwrap
  go_wp2_with fail
  go_loopw [4, 5] (fun d i u => BbRel w P (.slice A n c) l d i u) (fun _ i _ => P - (intOf i).toNat)
  case atStart => exact ⟨0, Nat.zero_le _, rfl, HA2.out, HO2.out, HB2.out⟩
  case round =>
    obtain ⟨k, hk, rfl, hA, hO, hB⟩ := hrel
    have HAR := Lib.hid hA
    have HOR := Lib.hid hO
    have HBR := Lib.hid hB
    have p0 := hA.c0
    have p1 := hA.c1
    clear hA hO hB
    by_cases hlt : k < P
    · have hkp : (k : Int) < (P : Int) := by omega
      have hkl : k < l.length := by have := HPL.out; omega
      have hkn : (k : Int) < (n : Int) := by have := N.out; omega
      obtain ⟨bl, off, rfl, hbl, hcl⟩ := HV.out.at hkl
      have HBL := Lib.hid hbl
      have HCL := Lib.hid (hcl k hkl)
      have hq : l[k]? = some l[k] := List.getElem?_eq_getElem hkl
      clear hbl hcl
      generalize l[k] = lb at *
      have HQ := Lib.hid hq
      have HLT := Lib.hid hlt
      obtain ⟨n5, hn5⟩ : ∃ n5, n5 = 5 + k / 8 := ⟨_, rfl⟩
      obtain ⟨j4, hj4⟩ : ∃ j4, j4 = 4 + k / 8 := ⟨_, rfl⟩
      have HQ5 := Lib.hid hn5
      have HJ4 := Lib.hid hj4
      clear hq hlt hkl hn5 hj4
      by_cases h8 : k % 8 = 0
      · have HR8 := Lib.hid h8
        have h8i : ((k : Int) % 8 == 0) = true := by simp; omega
        clear h8
        cases lb with
        | true =>
          go_wp2_with (first
            | (at_builtin; refine wpList_app _ rfl (.tmp 22) (.tmp 23) _ rfl (w.heap.size + 1) 5 i0 _ Try.underlying36 hi0 hz0 hz1 hz2 rfl _ (rowK P l k) rfl (World.ownsRow.alloc HOR.out _) (.slice (some ⟨wr.heap.size, 0, none⟩) 1 1) [0] rfl (Byt.lit1 _ _ _ _ _ rfl) (by rw [rowK_len]; unfold spM; have := HP4.out; have := HLT.out; simp; omega) (by have := HAR.out.lt; simp; omega) ?_
               intro d3 w3 ho3 hg3 hat3
               have HO3 : Hid (Own w3 (w.heap.size + 1) 5 d3 (rowN P l k)) := (by rw [Hid, rowN_more HR8.out]; exact ho3)
               have HA3 : Hid (SpBox w3 w.heap.size P (.slice (some ⟨bl, off, none⟩) n c)) := SBox.grownO' (HAR.out.alloc _) hg3 (fun e => by have := (World.ownsRow.lt HOR.out _ e).1; omega)
               have HB3 : Hid (Below w.heap.size w w3) := (HBR.out.alloc HBR.out.size _).grown hg3 (by have := HBR.out.size; simp only [World.size_alloc]; omega) (fun j hj => by have := (World.ownsRow.lt HOR.out _ hj).1; omega)
               clear ho3 hg3 hat3 p0 p1
               obtain ⟨g, c3, rfl, hBg, hg, hc31, hc32, _, _⟩ := OwnV.form (vs := byc (rowN P l k)) (by unfold OwnV; rw [byc_len]; exact HO3.out) (by rw [byc_len, rowN_len]; omega)
               rw [byc_len, rowN_len] at hc31 HO3 ⊢
               rw [← HQ5.out] at hc31 HO3 ⊢
               have HG : Hid (w.heap.size < g) := hBg
               have CL := (HB3.out.cell (p := ⟨bl, off + k, none⟩) HBL.out).trans HCL.out
               have q1 := HA3.out.c1
               clear hBg hg
               have cY : w3.cell? ⟨g, n5 - 1, none⟩ = some (.int .u8 (yK l k : Int)) := by
                 obtain ⟨hh, e⟩ := rowN_at (P := P) (l := l) (k := k)
                 have := own_cellU HO3.out hh
                 rw [e] at this
                 rw [show n5 - 1 = 4 + k / 8 by have := HQ5.out; omega]
                 exact this
               have HST : Hid (∀ w4, w4 = w3.setCell ⟨g, n5 - 1, none⟩ (.int .u8 (((yK l k : Int) + 2 ^ (k % 8)) % 256)) → SpBox w4 w.heap.size P (.slice (some ⟨bl, off, none⟩) n c) ∧ Own w4 (w.heap.size + 1) 5 (.slice (some ⟨g, 0, none⟩) n5 c3) (rowK P l (k + 1)) ∧ Below w.heap.size w w4) := by
                 intro w4 hw4
                 have hg4 : w3.grownBy w4 (some g) := by rw [hw4]; exact grown_set _ _ _ _
                 refine ⟨HA3.out.grown hg4 (by have := HG.out; omega), ?_, HB3.out.grown hg4 HB3.out.size (fun j e => by cases e; have := HG.out; omega)⟩
                 rw [hw4, rowN_set HQ.out, add_bit' (yK l k) (k % 8) (yK_lt l k) (Nat.mod_lt _ (by omega)), show n5 - 1 = 4 + k / 8 by have := HQ5.out; omega]
                 exact own_setU HO3.out (by rw [rowN_len]; exact HQ5.out.symm) _ _
               have hi1 : 1 ≤ (n5 : Int) := by have := HQ5.out; omega
               have hi2 : (n5 : Int) - 1 < (n5 : Int) := by omega
               have fY := own_frozenU HO3.out (n5 - 1)))
          go_roundw
          all_goals first
            | (obtain ⟨h1, h2, h3⟩ := HST.out _ rfl; exact ⟨k + 1, HLT.out, by push_cast; rfl, h1, h2, h3⟩)
            | (show P - ((k : Int) + 1).toNat < P - (k : Int).toNat; have := HLT.out; omega)
        | false =>
          go_wp2_with (first
            | (at_builtin; refine wpList_app _ rfl (.tmp 22) (.tmp 23) _ rfl (w.heap.size + 1) 5 i0 _ Try.underlying36 hi0 hz0 hz1 hz2 rfl _ (rowK P l k) rfl (World.ownsRow.alloc HOR.out _) (.slice (some ⟨wr.heap.size, 0, none⟩) 1 1) [0] rfl (Byt.lit1 _ _ _ _ _ rfl) (by rw [rowK_len]; unfold spM; have := HP4.out; have := HLT.out; simp; omega) (by have := HAR.out.lt; simp; omega) ?_
               intro d3 w3 ho3 hg3 hat3
               have HO3 : Hid (Own w3 (w.heap.size + 1) 5 d3 (rowN P l k)) := (by rw [Hid, rowN_more HR8.out]; exact ho3)
               have HA3 : Hid (SpBox w3 w.heap.size P (.slice (some ⟨bl, off, none⟩) n c)) := SBox.grownO' (HAR.out.alloc _) hg3 (fun e => by have := (World.ownsRow.lt HOR.out _ e).1; omega)
               have HB3 : Hid (Below w.heap.size w w3) := (HBR.out.alloc HBR.out.size _).grown hg3 (by have := HBR.out.size; simp only [World.size_alloc]; omega) (fun j hj => by have := (World.ownsRow.lt HOR.out _ hj).1; omega)
               clear ho3 hg3 hat3 p0 p1
               obtain ⟨g, c3, rfl, hBg, hg, hc31, hc32, _, _⟩ := OwnV.form (vs := byc (rowN P l k)) (by unfold OwnV; rw [byc_len]; exact HO3.out) (by rw [byc_len, rowN_len]; omega)
               rw [byc_len, rowN_len] at hc31 HO3 ⊢
               rw [← HQ5.out] at hc31 HO3 ⊢
               have HG : Hid (w.heap.size < g) := hBg
               have CL := (HB3.out.cell (p := ⟨bl, off + k, none⟩) HBL.out).trans HCL.out
               have q1 := HA3.out.c1
               clear hBg hg))
          go_roundw
          all_goals first
            | exact ⟨k + 1, HLT.out, by push_cast; rfl, HA3.out, by (rw [rowN_free HQ.out]; exact HO3.out), HB3.out⟩
            | (show P - ((k : Int) + 1).toNat < P - (k : Int).toNat; have := HLT.out; omega)
      · have HR8 := Lib.hid h8
        have h8i : ((k : Int) % 8 == 0) = false := by simp; omega
        clear h8
        cases lb with
        | true =>
          have HO3 : Hid (Own wr (w.heap.size + 1) 5 u4 (rowN P l k)) := by rw [Hid, rowN_same HR8.out]; exact HOR.out
          have HA3 : Hid (SpBox wr w.heap.size P (.slice (some ⟨bl, off, none⟩) n c)) := HAR.out
          have HB3 : Hid (Below w.heap.size w wr) := HBR.out
          clear p1
          obtain ⟨g, c3, rfl, hBg, hg, hc31, hc32, _, _⟩ := OwnV.form (vs := byc (rowN P l k)) (by unfold OwnV; rw [byc_len]; exact HO3.out) (by rw [byc_len, rowN_len]; omega)
          rw [byc_len, rowN_len] at hc31 HO3 ⊢
          rw [← HQ5.out] at hc31 HO3 ⊢
          have HG : Hid (w.heap.size < g) := hBg
          have CL := (HB3.out.cell (p := ⟨bl, off + k, none⟩) HBL.out).trans HCL.out
          have q1 := HA3.out.c1
          clear hBg hg
          have cY : wr.cell? ⟨g, n5 - 1, none⟩ = some (.int .u8 (yK l k : Int)) := by
            obtain ⟨hh, e⟩ := rowN_at (P := P) (l := l) (k := k)
            have := own_cellU HO3.out hh
            rw [e] at this
            rw [show n5 - 1 = 4 + k / 8 by have := HQ5.out; omega]
            exact this
          have HST : Hid (∀ w4, w4 = wr.setCell ⟨g, n5 - 1, none⟩ (.int .u8 (((yK l k : Int) + 2 ^ (k % 8)) % 256)) → SpBox w4 w.heap.size P (.slice (some ⟨bl, off, none⟩) n c) ∧ Own w4 (w.heap.size + 1) 5 (.slice (some ⟨g, 0, none⟩) n5 c3) (rowK P l (k + 1)) ∧ Below w.heap.size w w4) := by
            intro w4 hw4
            have hg4 : wr.grownBy w4 (some g) := by rw [hw4]; exact grown_set _ _ _ _
            refine ⟨HA3.out.grown hg4 (by have := HG.out; omega), ?_, HB3.out.grown hg4 HB3.out.size (fun j e => by cases e; have := HG.out; omega)⟩
            rw [hw4, rowN_set HQ.out, add_bit' (yK l k) (k % 8) (yK_lt l k) (Nat.mod_lt _ (by omega)), show n5 - 1 = 4 + k / 8 by have := HQ5.out; omega]
            exact own_setU HO3.out (by rw [rowN_len]; exact HQ5.out.symm) _ _
          have hi1 : 1 ≤ (n5 : Int) := by have := HQ5.out; omega
          have hi2 : (n5 : Int) - 1 < (n5 : Int) := by omega
          have fY := own_frozenU HO3.out (n5 - 1)
          go_wp2_with fail
          go_roundw
          all_goals first
            | (obtain ⟨h1, h2, h3⟩ := HST.out _ rfl; exact ⟨k + 1, HLT.out, by push_cast; rfl, h1, h2, h3⟩)
            | (show P - ((k : Int) + 1).toNat < P - (k : Int).toNat; have := HLT.out; omega)
        | false =>
          have HO3 : Hid (Own wr (w.heap.size + 1) 5 u4 (rowN P l k)) := by rw [Hid, rowN_same HR8.out]; exact HOR.out
          have HA3 : Hid (SpBox wr w.heap.size P (.slice (some ⟨bl, off, none⟩) n c)) := HAR.out
          have HB3 : Hid (Below w.heap.size w wr) := HBR.out
          clear p1
          obtain ⟨g, c3, rfl, hBg, hg, hc31, hc32, _, _⟩ := OwnV.form (vs := byc (rowN P l k)) (by unfold OwnV; rw [byc_len]; exact HO3.out) (by rw [byc_len, rowN_len]; omega)
          rw [byc_len, rowN_len] at hc31 HO3 ⊢
          rw [← HQ5.out] at hc31 HO3 ⊢
          have HG : Hid (w.heap.size < g) := hBg
          have CL := (HB3.out.cell (p := ⟨bl, off + k, none⟩) HBL.out).trans HCL.out
          have q1 := HA3.out.c1
          clear hBg hg
          go_wp2_with fail
          go_roundw
          all_goals first
            | exact ⟨k + 1, HLT.out, by push_cast; rfl, HA3.out, by (rw [rowN_free HQ.out]; exact HO3.out), HB3.out⟩
            | (show P - ((k : Int) + 1).toNat < P - (k : Int).toNat; have := HLT.out; omega)
    · have hkp : ¬ (k : Int) < (P : Int) := by omega
      obtain rfl : k = P := by omega
      go_wp2_with fail
      go_ret2
      exact ⟨_, rfl, Own.lower HOR.out (by omega), HBR.out⟩
theorem r8Bytes_any (w : World) (p : Int) (v : Value) (l : List Bool) (hv : Boos w v l) (hlen : l.length ≤ 70368744177664) :
    Calls Try.prog 24 #[.agg #[.int .i64 p, v]] w (ByOut w (spBytes p l)) := by
  unfold spBytes
  by_cases hok : spOk p l
  · rw [if_pos hok]
    have hl := spOk_len hok
    obtain rfl : p = (l.length : Int) := hl.1.symm
    rw [← rowK_all]
    exact r8Bytes_ok w l.length v l hv rfl hok
  · rw [if_neg hok]
    obtain ⟨w0, hw0⟩ : ∃ w0, w.alloc (.cells #[.int .i64 p, v] 24) = w0 := ⟨_, rfl⟩
    have hb0 : Below w.heap.size w w0 := hw0 ▸ below_new w _
    have HCK := Lib.hid (r8check_any w0 p v l (hv.below hb0) hlen)
    rw [if_neg hok] at HCK
    obtain ⟨A, n, c, rfl, N, hnc, hcm⟩ := hv.form
    have HW0 := Lib.hid hw0
    have HB0 := Lib.hid hb0
    clear hv hlen hok hw0 hb0
    go_enter Try.func24, Try.ntmps24
    go_wp2_with fail
    rw [HW0.out]
    refine HCK.out.mono ?_
    rintro e w1 ⟨rfl, hb1⟩
    have HB1 : Hid (Below w.heap.size w w1) := HB0.out.trans (hb1.mono HB0.out.size)
    clear hb1
    go_wp2_with fail
    go_ret2
    exact ⟨_, rfl, World.ownsRow_nil _ _ _ _, HB1.out⟩
end Go.Proofs.Ytncjobeahpjnpaa
