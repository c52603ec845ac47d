/-
  The statement ChainEnds: whatever the pages hold, what is read ends: no page twice, none more than allowed. Conditions: none.
-/
import Derived.Test.YtknagdbhhfelnaaDoorCCnP
import Derived.Test.YtknagdbhhfelnaaDoorMg6
import Derived.Test.YtknagdbhhfelnaaDoorMg5
namespace Go.Proofs.YtknagdbhhfelnaaDoor.chainEnds
open Go.ChangeShapes Go.WideShapes Go.ChangeAt Go.RowKit Go.Maps Go
set_option maxRecDepth 100000
set_option linter.unusedVariables false

def E1Rel (w : World) (p d fb n : Nat) (i : Value) (wr : World) : Prop := ∃ (q : Nat) (T : Nat → Prop) (has : Nat → List UInt8), q ≤ n ∧ i = .int .i64 (q : Int) ∧ PlT wr T p d fb 30 8 has ∧ Sane has 30 ∧ (∀ k, T k → w.heap.size ≤ k) ∧ Below w.heap.size w wr
def E2Rel (w : World) (p d fb n : Nat) (has : Nat → List UInt8) (i : Value) (wr : World) : Prop := ∃ (q : Nat) (T : Nat → Prop), q ≤ n ∧ i = .int .i64 (q : Int) ∧ PlT wr T p d fb 30 8 has ∧ (∀ k, T k → w.heap.size ≤ k) ∧ Below w.heap.size w wr
def SetI (w : World) (g k : Nat) (ps : List Nat) : Prop := ∃ D : DataW Unit, w.ownsMap Tryd.prog 3 (plainElem Tryd.prog 3) g k D ∧ IsMap D ∧ ∀ n : Nat, Maps.has D (keyL n) = decide (n ∈ ps)
def MpRel (w : World) (ps : List Nat) (i : Value) (wr : World) : Prop := ∃ k : Nat, k ≤ ps.length ∧ i = .int .i64 (k : Int) ∧ SetI wr w.heap.size k (ps.take k) ∧ Below w.heap.size w wr
theorem mapUnderI : Tryd.prog.underlying 50 = some (.map 3 3) := Tryd.underlying50
theorem run_makeI (w : World) : (Instr.makeMap 50 none).run Tryd.prog w = .ok (.map (some w.heap.size)) (w.alloc (.map #[] 0)) := by
  unfold Instr.makeMap
  simp only [Sem.run_bind, Result.andThen_ok, Sem.run_pure, run_newObj_alloc]
theorem zeroInt (w : World) : (zeroValue 3).run Tryd.prog w = .ok (.int .i64 0) w := by kernel_rfl
set_option maxRecDepth 100000 in
set_option maxHeartbeats 16000000 in
theorem walk_false (w : World) (v1 v2 : Value) (l1 l2 : List Int) (limit : Int) (L : Nat) (hv1 : Rowz w v1 (l1.map (Value.int .i64))) (hv2 : Rowz w v2 (l2.map (Value.int .i64))) (h1 : l1.length ≤ 20) (h2 : l2.length ≤ 20) (hL : limit % 30 = (L : Int)) :
    Calls Tryd.prog 5 #[v1, v2, .bool false, .int .i64 limit] w fun e w' => e = .returned (.bool true) ∧ Below w.heap.size w w' := by
  obtain ⟨A1, n1, c1, rfl, N1, hc1, hcm1⟩ := hv1.form
  obtain ⟨A2, n2, c2, rfl, N2, hc2, hcm2⟩ := hv2.form
  have HL1 : Hid (n1 = l1.length ∧ n1 ≤ 20) := by have := N1.out; rw [List.length_map] at this; exact ⟨this, by omega⟩
  have HL2 : Hid (n2 = l2.length ∧ n2 ≤ 20) := by have := N2.out; rw [List.length_map] at this; exact ⟨this, by omega⟩
  have HV1 := Lib.hid hv1
  have HV2 := Lib.hid hv2
  have HPL : Hid (∀ W, Calls Tryd.prog 14 #[.int .i64 limit, .int .i64 30] W fun e w' => e = .returned (.int .i64 (L : Int)) ∧ W = w') := fun W => hL ▸ pick_any limit 30 W (by omega) (by omega)
  have HL30 : Hid (L < 30) := by have := Int.emod_lt_of_pos limit (show (0 : Int) < 30 by omega); rw [Hid]; omega
  have hn1 : (n1 : Int) ≤ 20 := by have := HL1.out; omega
  have hn2 : (n2 : Int) ≤ 20 := by have := HL2.out; omega
  clear hv1 hv2 h1 h2 hL N1 N2
  go_enter Tryd.func5, Tryd.ntmps5
  go_wp2_with fail
  refine (lives9_any w).mono ?_
  rintro e w1 ⟨rfl, hb1⟩
  have HB1 := Lib.hid hb1
  clear hb1
  go_wp2_with fail
  refine (snew_any w1 240 (by omega) (by omega)).mono ?_
  rintro e w2 ⟨d, rfl, hd2, hb2⟩
  have HD2 := Lib.hid hd2
  have HB2 := Lib.hid hb2
  clear hd2 hb2
  go_wp2_with fail
  refine (pnew_is w2 _ d (newS 240) 8 HD2.out (by rw [secs_new]; omega) (by omega) (by omega)).mono ?_
  rintro e w3 ⟨p, fb, rfl, hp3, hb3⟩
  obtain ⟨T0, hpt, hT⟩ := plt_new (n := 30) (by omega) (by omega) hp3 HB2.out.size
  have HP0 := Lib.hid hpt
  have HT0 : Hid (∀ k, T0 k → w.heap.size ≤ k) := fun k hk => Nat.le_trans HB1.out.size (hT k hk)
  have HB3 : Hid (Below w.heap.size w w3) := HB1.out.trans ((HB2.out.mono HB1.out.size).trans (hb3.mono (Nat.le_trans HB1.out.size HB2.out.size)))
  clear hp3 hb3 hpt hT
  go_wp2_with fail
  go_loopw [13] (fun i wr => E1Rel w p d fb n1 i wr) (fun i _ => n1 - (intOf i).toNat)
  case atStart => exact ⟨0, _, _, Nat.zero_le _, rfl, HP0.out, Sane.zero 30, HT0.out, HB3.out⟩
  case round =>
      obtain ⟨q, T, has, hq, rfl, hpt, hsn, hT, hbel⟩ := hrel
      have HPT := Lib.hid hpt
      have HSN := Lib.hid hsn
      have HT := Lib.hid hT
      have HB := Lib.hid hbel
      clear hpt hsn hT hbel
      by_cases hlt : q < n1
      · have hqn : (q : Int) < (n1 : Int) := by omega
        have HQ : Hid (q < n1 ∧ n1 ≤ 20) := ⟨hlt, HL1.out.2⟩
        have hql : q < l1.length := by rw [← HL1.out.1]; exact hlt
        obtain ⟨b1, o1, rfl, hb1, hc1⟩ := (HV1.out.below HB.out).at (k := q) (by rw [List.length_map]; exact hql)
        have hx1 : wr.cell? ⟨b1, o1 + q, none⟩ = some (.int .i64 l1[q]) := (hc1 q (by rw [List.length_map]; exact hql)).trans (by simp)
        have hm1 := Int.emod_nonneg l1[q] (show (30 : Int) ≠ 0 by omega)
        have hm2 := Int.emod_lt_of_pos l1[q] (show (0 : Int) < 30 by omega)
        obtain ⟨t, ht⟩ : ∃ t : Nat, l1[q] % 30 = (t : Int) := ⟨(l1[q] % 30).toNat, by omega⟩
        have ht30 : t < 30 := by omega
        clear hm1 hm2 hc1 hb1
        generalize l1[q] = x1 at *
        have HT1 := Lib.hid ht
        clear ht
        by_cases hs : q < n2
        · have hqs : (q : Int) < (n2 : Int) := by omega
          have hql2 : q < l2.length := by rw [← HL2.out.1]; exact hs
          obtain ⟨b2, o2, rfl, hb2, hc2⟩ := (HV2.out.below HB.out).at (k := q) (by rw [List.length_map]; exact hql2)
          have hx2 : wr.cell? ⟨b2, o2 + q, none⟩ = some (.int .i64 l2[q]) := (hc2 q (by rw [List.length_map]; exact hql2)).trans (by simp)
          have hm1 := Int.emod_nonneg l2[q] (show (5000 : Int) ≠ 0 by omega)
          have hm2 := Int.emod_lt_of_pos l2[q] (show (0 : Int) < 5000 by omega)
          obtain ⟨s, hs5⟩ : ∃ s : Nat, l2[q] % 5000 = (s : Int) := ⟨(l2[q] % 5000).toNat, by omega⟩
          have hs50 : s < 5000 := by omega
          clear hm1 hm2 hc2 hb2
          generalize l2[q] = x2 at *
          have HS5 := Lib.hid hs5
          clear hs5 hs
          go_wp2_with fail
          refine (pick_any x2 5000 wr (by omega) (by omega)).mono ?_
          rintro e wr' ⟨rfl, rfl⟩
          rw [HS5.out]
          go_wp2_with fail
          refine (pick_any x1 30 wr (by omega) (by omega)).mono ?_
          rintro e wr' ⟨rfl, rfl⟩
          rw [HT1.out]
          obtain ⟨tb, htb⟩ : ∃ tb : UInt8, (tb.toNat : Int) = (t : Int) := ⟨UInt8.ofNat t, by simp; omega⟩
          obtain ⟨ab, hab⟩ : ∃ ab : UInt8, (ab.toNat : Int) = ((s : Int) % 256) := ⟨UInt8.ofNat (s % 256), by simp; try omega⟩
          obtain ⟨bb, hbb⟩ : ∃ bb : UInt8, (bb.toNat : Int) = ((s : Int) / 256) := ⟨UInt8.ofNat (s / 256), by simp; try omega⟩
          have HBY : Hid (Byt (wr.alloc (.cells #[.int .u8 (t : Int), .int .u8 0, .int .u8 0, .int .u8 0, .int .u8 ((s : Int) % 256), .int .u8 ((s : Int) / 256), .int .u8 7] 5)) (.slice (some ⟨wr.heap.size, 0, none⟩) 7 7) [tb, 0, 0, 0, ab, bb, 7]) := by
            have h := Byt.lit wr 5 [tb, 0, 0, 0, ab, bb, 7] (0, 0) (by simp [maxLen])
            have e : (byc [tb, 0, 0, 0, ab, bb, 7]).toArray = #[.int .u8 (t : Int), .int .u8 0, .int .u8 0, .int .u8 0, .int .u8 ((s : Int) % 256), .int .u8 ((s : Int) / 256), .int .u8 7] := by simp [byc, htb, hab, hbb]
            rw [e] at h
            exact h
          have HTB : Hid (tb.toNat < 30) := by rw [Hid]; omega
          have hq32 : (q : Int) < 4294967296 := by have := HQ.out; omega
          clear htb hab hbb
          go_wp2_with fail
          refine (r5bytes_ok _ 7 q _ _ HBY.out (by omega) (by omega) (by simp) (by have := HQ.out; omega)).mono ?_
          rintro e w5 ⟨v5, rfl, hown5, hb5⟩
          have hb5' : Below wr.heap.size wr w5 := (below_new wr _).trans (hb5.mono (by simp))
          have HO5 := Lib.hid hown5
          have HB5 := Lib.hid hb5'
          have e2 : ((2 + q : Nat) : Int) = 2 + (q : Int) := by omega
          have HE2 := Lib.hid e2
          clear hown5 hb5 hb5' e2
          go_wp2_with fail
          refine (HE2.out ▸ cput_any (HPT.out.below HB5.out) (x := 2 + q) (by have := HQ.out; omega) HO5.out.byt (pageB_len (by simp)) (fun j hj => by
            obtain ⟨h1, h2⟩ := World.ownsRow.lt HO5.out j hj
            refine ⟨fun h => ?_, h2⟩
            have := HPT.out.lt j h
            simp at h1
            omega)).mono ?_
          rintro e w6 ⟨rfl, ho6⟩
          obtain ⟨T6, hpt6, hT6, _, _, hb6⟩ := ho6.own (B := w.heap.size) (Nat.le_trans HB.out.size HB5.out.size) HT.out
          have HPT6 := Lib.hid hpt6
          have HT6 := Lib.hid hT6
          have HB6 : Hid (Below w.heap.size w w6) := HB.out.trans ((HB5.out.mono HB.out.size).trans hb6)
          have HSN6 := Lib.hid (HSN.out.upd (2 + q) (pageB 7 q [tb, 0, 0, 0, ab, bb, 7]) (by rw [nextN_body]; exact HTB.out))
          clear ho6 hpt6 hT6 hb6
          go_wp2_with fail
          go_roundw
          case rel => exact ⟨q + 1, _, _, by omega, by go_num, HPT6.out, HSN6.out, HT6.out, HB6.out⟩
          case measure => simp [intOf]; omega
        · have hqs : ¬ (q : Int) < (n2 : Int) := by omega
          go_wp2_with fail
          refine (pick_any x1 30 wr (by omega) (by omega)).mono ?_
          rintro e wr' ⟨rfl, rfl⟩
          rw [HT1.out]
          obtain ⟨tb, htb⟩ : ∃ tb : UInt8, (tb.toNat : Int) = (t : Int) := ⟨UInt8.ofNat t, by simp; omega⟩
          obtain ⟨ab, hab⟩ : ∃ ab : UInt8, (ab.toNat : Int) = 234 := ⟨UInt8.ofNat (4074 % 256), by simp; try omega⟩
          obtain ⟨bb, hbb⟩ : ∃ bb : UInt8, (bb.toNat : Int) = 15 := ⟨UInt8.ofNat (4074 / 256), by simp; try omega⟩
          have HBY : Hid (Byt (wr.alloc (.cells #[.int .u8 (t : Int), .int .u8 0, .int .u8 0, .int .u8 0, .int .u8 234, .int .u8 15, .int .u8 7] 5)) (.slice (some ⟨wr.heap.size, 0, none⟩) 7 7) [tb, 0, 0, 0, ab, bb, 7]) := by
            have h := Byt.lit wr 5 [tb, 0, 0, 0, ab, bb, 7] (0, 0) (by simp [maxLen])
            have e : (byc [tb, 0, 0, 0, ab, bb, 7]).toArray = #[.int .u8 (t : Int), .int .u8 0, .int .u8 0, .int .u8 0, .int .u8 234, .int .u8 15, .int .u8 7] := by simp [byc, htb, hab, hbb]
            rw [e] at h
            exact h
          have HTB : Hid (tb.toNat < 30) := by rw [Hid]; omega
          have hq32 : (q : Int) < 4294967296 := by have := HQ.out; omega
          clear htb hab hbb
          go_wp2_with fail
          refine (r5bytes_ok _ 7 q _ _ HBY.out (by omega) (by omega) (by simp) (by have := HQ.out; omega)).mono ?_
          rintro e w5 ⟨v5, rfl, hown5, hb5⟩
          have hb5' : Below wr.heap.size wr w5 := (below_new wr _).trans (hb5.mono (by simp))
          have HO5 := Lib.hid hown5
          have HB5 := Lib.hid hb5'
          have e2 : ((2 + q : Nat) : Int) = 2 + (q : Int) := by omega
          have HE2 := Lib.hid e2
          clear hown5 hb5 hb5' e2
          go_wp2_with fail
          refine (HE2.out ▸ cput_any (HPT.out.below HB5.out) (x := 2 + q) (by have := HQ.out; omega) HO5.out.byt (pageB_len (by simp)) (fun j hj => by
            obtain ⟨h1, h2⟩ := World.ownsRow.lt HO5.out j hj
            refine ⟨fun h => ?_, h2⟩
            have := HPT.out.lt j h
            simp at h1
            omega)).mono ?_
          rintro e w6 ⟨rfl, ho6⟩
          obtain ⟨T6, hpt6, hT6, _, _, hb6⟩ := ho6.own (B := w.heap.size) (Nat.le_trans HB.out.size HB5.out.size) HT.out
          have HPT6 := Lib.hid hpt6
          have HT6 := Lib.hid hT6
          have HB6 : Hid (Below w.heap.size w w6) := HB.out.trans ((HB5.out.mono HB.out.size).trans hb6)
          have HSN6 := Lib.hid (HSN.out.upd (2 + q) (pageB 7 q [tb, 0, 0, 0, ab, bb, 7]) (by rw [nextN_body]; exact HTB.out))
          clear ho6 hpt6 hT6 hb6
          go_wp2_with fail
          go_roundw
          case rel => exact ⟨q + 1, _, _, by omega, by go_num, HPT6.out, HSN6.out, HT6.out, HB6.out⟩
          case measure => simp [intOf]; omega
      · obtain rfl : n1 = q := by omega
        clear hlt hq
        go_wp2_with fail
        refine (HPL.out wr).mono ?_
        rintro e wr' ⟨rfl, rfl⟩
        go_wp2_with fail
        go_loopw [20] (fun i wr' => E2Rel w p d fb n1 has i wr') (fun i _ => n1 - (intOf i).toNat)
        case atStart => exact ⟨0, T, Nat.zero_le _, rfl, HPT.out, HT.out, HB.out⟩
        case round =>
          obtain ⟨q, T5, hq, rfl, hpt, hT, hbel⟩ := hrel
          have HP5 := Lib.hid hpt
          have HT5 := Lib.hid hT
          have HB5 := Lib.hid hbel
          clear hpt hT hbel
          by_cases hlt : q < n1
          · have hqn : (q : Int) < (n1 : Int) := by omega
            have HQ : Hid (q < n1 ∧ n1 ≤ 20) := ⟨hlt, HL1.out.2⟩
            have e2 : ((2 + q : Nat) : Int) = 2 + (q : Int) := by omega
            have HE2 := Lib.hid e2
            clear e2 hlt hq
            go_wp2_with fail
            refine (HE2.out ▸ cread_is _ T5 p d fb 30 8 has 7 (2 + q) L HP5.out (.inr (.inr rfl)) (by omega) (by have := HQ.out; omega) (HSN.out.closed 7) (by have := HL30.out; omega)).mono ?_
            intro e w6 ho6
            obtain ⟨T6, hpt6, hT6, _, _, hb6, hend⟩ := ho6.own (B := w.heap.size) HB5.out.size HT5.out
            have HP6 := Lib.hid hpt6
            have HT6 := Lib.hid hT6
            have HB6 : Hid (Below w.heap.size w w6) := HB5.out.trans hb6
            clear ho6 hpt6 hT6 hb6
            cases hr : readT has 7 L [] [] (2 + q) with
            | none =>
              rw [hr] at hend
              obtain rfl : e = .returned (.tuple #[.slice none 0 0, .slice none 0 0, .int .i64 4]) := hend
              clear hr
              go_wp2_with fail
              go_roundw
              case rel => exact ⟨q + 1, T6, by have := HQ.out; omega, by go_num, HP6.out, HT6.out, HB6.out⟩
              case measure => have := HQ.out; simp [intOf]; omega
            | some r =>
              obtain ⟨b, ps⟩ := r
              rw [hr] at hend
              obtain ⟨bv, pv, rfl, hob, hop, _, _⟩ := hend
              obtain ⟨hnd, hle, hne, hin, hneed⟩ := read_some (HSN.out.closed 7) hr (by omega) (by have := HQ.out; omega)
              clear hr
              obtain ⟨Ab, cb, rfl⟩ := ownsRow_form hob
              obtain ⟨Ap, cp, rfl⟩ := ownsRow_form hop
              have HVP : Hid (Rowz w6 (.slice Ap (natC ps).length cp) (natC ps)) := hop.rowz
              have hpl : 0 < ps.length := List.length_pos_iff.2 hne
              have HPP : Hid (0 < ps.length ∧ ps.length ≤ L) := ⟨hpl, hle⟩
              have HNDP := Lib.hid hnd
              have HIN := Lib.hid hin
              have HNE := Lib.hid hneed
              have hbl : b.length < 4611686018427387904 := by have h1 := @needN_up b.length; have := HL30.out; omega
              have HBL := Lib.hid hbl
              rw [natC_len] at HVP ⊢
              have hmm := run_makeI
              obtain ⟨M, hM⟩ : ∃ M, ps.length = M := ⟨_, rfl⟩
              rw [hM] at HVP HPP HNE hle hpl ⊢
              have HM := Lib.hid hM
              have hle1 : (M : Int) ≤ (L : Int) := by omega
              have hle2 : ((M : Int) == 0) = false := by simp; omega
              have hle3 : (M : Int) ≤ 29 := by have := HL30.out; omega
              clear hob hop hnd hle hne hin hneed hpl hbl hM
              go_wp2_with fail
              go_loopw [25] (fun i wr' => MpRel w6 ps i wr') (fun i _ => M - (intOf i).toNat)
              case atStart => exact ⟨0, by omega, rfl, ⟨.map [], World.ownsMap_made _ _ _ _, isMap_empty, fun n => by simp [Maps.has]⟩, below_new w6 _⟩
              case round =>
                obtain ⟨k, hk, rfl, hset, hbel⟩ := hrel
                have HBM := Lib.hid hbel
                obtain ⟨D, hown, hism, hhas⟩ := hset
                have HO := Lib.hid hown
                have HI := Lib.hid hism
                clear hbel hown hism
                rw [HM.out] at hk
                by_cases hkM : k < M
                · have hlt : k < ps.length := by rw [HM.out]; exact hkM
                  have hkn : (k : Int) < (M : Int) := by omega
                  have HKM := Lib.hid hkM
                  obtain ⟨b3, o3, rfl, hb3, hc3⟩ := (HVP.out.below HBM.out).at (k := k) (by rw [natC_len]; exact hlt)
                  have hx3 := (hc3 k (by rw [natC_len]; exact hlt)).trans (show some ((natC ps)[k]'(by rw [natC_len]; exact hlt)) = some (.int .i64 (ps[k] : Int)) by simp [natC])
                  have HT : Hid (ps.take (k + 1) = ps.take k ++ [ps[k]]) := List.take_succ_eq_append_getElem hlt
                  have hnin : ps[k] ∉ ps.take k := fun hm => by
                    have hnd : (ps.take (k + 1)).Nodup := HNDP.out.sublist (List.take_sublist _ _)
                    rw [HT.out, List.nodup_append] at hnd
                    exact hnd.2.2 _ hm _ (List.mem_singleton.2 rfl) rfl
                  have hkey : keyOf Tryd.prog 3 (.int .i64 (ps[k] : Int)) = some (keyL ps[k]) := keyOf_int_mk Tryd.underlying3 (keyL_wf (by have := HIN.out _ (List.getElem_mem hlt); omega))
                  have hh := hhas ps[k]
                  have HH := Lib.hid hhas
                  clear hc3 hhas
                  generalize ps[k] = x at *
                  have hx1 : Maps.has D (keyL x) = false := by rw [hh]; simp [hnin]
                  have HX1 := Lib.hid hx1
                  clear hh hx1 hnin
                  go_wp2_with (first
                    | (at_lookup; refine wpList_lookup_own_int _ rfl _ _ 50 rfl 3 3 .i64 intKeyed mapUnderI Tryd.underlying3 (zeroInt _) w6.heap.size k D rfl HO.out _ (keyL x) rfl hkey ?_; intro c hat _; obtain rfl : c = 0 := by rw [atKey_of_not_has HX1.out] at hat; cases hat; rfl)
                    | (at_mapUpdate; refine wpList_mapUpdate_own _ rfl _ _ _ 50 rfl 3 3 intKeyed mapUnderI (plainElem Tryd.prog 3) w6.heap.size k D rfl HO.out (by unfold maxLen; have := HPP.out; have := HL30.out; omega) _ _ _ rfl rfl hkey _ [] (plainElem_int Tryd.underlying3 (by decide)) ?_; intro w7 hown7 hgrow7))
                  go_roundw
                  case rel =>
                    refine ⟨k + 1, by rw [HM.out]; have := HKM.out; omega, by go_num, ⟨_, hown7, HI.out.put _ _, fun y => ?_⟩, ?_⟩
                    · rw [HT.out]
                      by_cases e : y = x
                      · subst e
                        rw [has_put_same HI.out (show WideAt.IsKeyLit (keyL y) from trivial)]
                        simp
                      · rw [has_put_other (keyL_ne e), HH.out y]
                        simp [e]
                    · exact HBM.out.grown hgrow7 HBM.out.size (fun j hj => by cases hj; exact Nat.le_refl _)
                  case measure => have := HKM.out; simp [intOf]; omega
                · obtain rfl : M = k := by omega
                  have HB7 : Hid (Below w.heap.size w _) := HB6.out.trans (HBM.out.mono HB6.out.size)
                  have HP7 := Lib.hid (HP6.out.below HBM.out)
                  clear hkM hk
                  go_wp2_with fail
                  refine (cneed_any _ (b.length : Int) (by have := HBL.out; omega)).mono ?_
                  rintro e w8 ⟨rfl, rfl⟩
                  rw [show needI (b.length : Int) = needN b.length from rfl, HNE.out]
                  go_wp2_with fail
                  go_roundw
                  case rel => exact ⟨q + 1, T6, by have := HQ.out; omega, by go_num, HP7.out, HT6.out, HB7.out⟩
                  case measure => have := HQ.out; simp [intOf]; omega
          · obtain rfl : n1 = q := by omega
            clear hlt hq
            go_wp2_with fail
            go_ret
            exact ⟨rfl, HB5.out⟩

set_option maxRecDepth 100000 in
set_option maxHeartbeats 16000000 in
theorem walk_true (w : World) (v1 v2 : Value) (l1 l2 : List Int) (limit : Int) (L : Nat) (hv1 : Rowz w v1 (l1.map (Value.int .i64))) (hv2 : Rowz w v2 (l2.map (Value.int .i64))) (h1 : l1.length ≤ 20) (h2 : l2.length ≤ 20) (hL : limit % 30 = (L : Int)) :
    Calls Tryd.prog 5 #[v1, v2, .bool true, .int .i64 limit] w fun e w' => e = .returned (.bool true) ∧ Below w.heap.size w w' := by
  obtain ⟨A1, n1, c1, rfl, N1, hc1, hcm1⟩ := hv1.form
  obtain ⟨A2, n2, c2, rfl, N2, hc2, hcm2⟩ := hv2.form
  have HL1 : Hid (n1 = l1.length ∧ n1 ≤ 20) := by have := N1.out; rw [List.length_map] at this; exact ⟨this, by omega⟩
  have HL2 : Hid (n2 = l2.length ∧ n2 ≤ 20) := by have := N2.out; rw [List.length_map] at this; exact ⟨this, by omega⟩
  have HV1 := Lib.hid hv1
  have HV2 := Lib.hid hv2
  have HPL : Hid (∀ W, Calls Tryd.prog 14 #[.int .i64 limit, .int .i64 30] W fun e w' => e = .returned (.int .i64 (L : Int)) ∧ W = w') := fun W => hL ▸ pick_any limit 30 W (by omega) (by omega)
  have HL30 : Hid (L < 30) := by have := Int.emod_lt_of_pos limit (show (0 : Int) < 30 by omega); rw [Hid]; omega
  have hn1 : (n1 : Int) ≤ 20 := by have := HL1.out; omega
  have hn2 : (n2 : Int) ≤ 20 := by have := HL2.out; omega
  clear hv1 hv2 h1 h2 hL N1 N2
  go_enter Tryd.func5, Tryd.ntmps5
  go_wp2_with fail
  refine (lives9_any w).mono ?_
  rintro e w1 ⟨rfl, hb1⟩
  have HB1 := Lib.hid hb1
  clear hb1
  go_wp2_with fail
  refine (snew_any w1 240 (by omega) (by omega)).mono ?_
  rintro e w2 ⟨d, rfl, hd2, hb2⟩
  have HD2 := Lib.hid hd2
  have HB2 := Lib.hid hb2
  clear hd2 hb2
  go_wp2_with fail
  refine (pnew_is w2 _ d (newS 240) 8 HD2.out (by rw [secs_new]; omega) (by omega) (by omega)).mono ?_
  rintro e w3 ⟨p, fb, rfl, hp3, hb3⟩
  obtain ⟨T0, hpt, hT⟩ := plt_new (n := 30) (by omega) (by omega) hp3 HB2.out.size
  have HP0 := Lib.hid hpt
  have HT0 : Hid (∀ k, T0 k → w.heap.size ≤ k) := fun k hk => Nat.le_trans HB1.out.size (hT k hk)
  have HB3 : Hid (Below w.heap.size w w3) := HB1.out.trans ((HB2.out.mono HB1.out.size).trans (hb3.mono (Nat.le_trans HB1.out.size HB2.out.size)))
  clear hp3 hb3 hpt hT
  go_wp2_with fail
  go_loopw [13] (fun i wr => E1Rel w p d fb n1 i wr) (fun i _ => n1 - (intOf i).toNat)
  case atStart => exact ⟨0, _, _, Nat.zero_le _, rfl, HP0.out, Sane.zero 30, HT0.out, HB3.out⟩
  case round =>
      obtain ⟨q, T, has, hq, rfl, hpt, hsn, hT, hbel⟩ := hrel
      have HPT := Lib.hid hpt
      have HSN := Lib.hid hsn
      have HT := Lib.hid hT
      have HB := Lib.hid hbel
      clear hpt hsn hT hbel
      by_cases hlt : q < n1
      · have hqn : (q : Int) < (n1 : Int) := by omega
        have HQ : Hid (q < n1 ∧ n1 ≤ 20) := ⟨hlt, HL1.out.2⟩
        have hql : q < l1.length := by rw [← HL1.out.1]; exact hlt
        obtain ⟨b1, o1, rfl, hb1, hc1⟩ := (HV1.out.below HB.out).at (k := q) (by rw [List.length_map]; exact hql)
        have hx1 : wr.cell? ⟨b1, o1 + q, none⟩ = some (.int .i64 l1[q]) := (hc1 q (by rw [List.length_map]; exact hql)).trans (by simp)
        have hm1 := Int.emod_nonneg l1[q] (show (30 : Int) ≠ 0 by omega)
        have hm2 := Int.emod_lt_of_pos l1[q] (show (0 : Int) < 30 by omega)
        obtain ⟨t, ht⟩ : ∃ t : Nat, l1[q] % 30 = (t : Int) := ⟨(l1[q] % 30).toNat, by omega⟩
        have ht30 : t < 30 := by omega
        clear hm1 hm2 hc1 hb1
        generalize l1[q] = x1 at *
        have HT1 := Lib.hid ht
        clear ht
        by_cases hs : q < n2
        · have hqs : (q : Int) < (n2 : Int) := by omega
          have hql2 : q < l2.length := by rw [← HL2.out.1]; exact hs
          obtain ⟨b2, o2, rfl, hb2, hc2⟩ := (HV2.out.below HB.out).at (k := q) (by rw [List.length_map]; exact hql2)
          have hx2 : wr.cell? ⟨b2, o2 + q, none⟩ = some (.int .i64 l2[q]) := (hc2 q (by rw [List.length_map]; exact hql2)).trans (by simp)
          have hm1 := Int.emod_nonneg l2[q] (show (5000 : Int) ≠ 0 by omega)
          have hm2 := Int.emod_lt_of_pos l2[q] (show (0 : Int) < 5000 by omega)
          obtain ⟨s, hs5⟩ : ∃ s : Nat, l2[q] % 5000 = (s : Int) := ⟨(l2[q] % 5000).toNat, by omega⟩
          have hs50 : s < 5000 := by omega
          clear hm1 hm2 hc2 hb2
          generalize l2[q] = x2 at *
          have HS5 := Lib.hid hs5
          clear hs5 hs
          go_wp2_with fail
          refine (pick_any x2 5000 wr (by omega) (by omega)).mono ?_
          rintro e wr' ⟨rfl, rfl⟩
          rw [HS5.out]
          go_wp2_with fail
          refine (pick_any x1 30 wr (by omega) (by omega)).mono ?_
          rintro e wr' ⟨rfl, rfl⟩
          rw [HT1.out]
          obtain ⟨tb, htb⟩ : ∃ tb : UInt8, (tb.toNat : Int) = (t : Int) := ⟨UInt8.ofNat t, by simp; omega⟩
          obtain ⟨ab, hab⟩ : ∃ ab : UInt8, (ab.toNat : Int) = ((s : Int) % 256) := ⟨UInt8.ofNat (s % 256), by simp; try omega⟩
          obtain ⟨bb, hbb⟩ : ∃ bb : UInt8, (bb.toNat : Int) = ((s : Int) / 256) := ⟨UInt8.ofNat (s / 256), by simp; try omega⟩
          have HBY : Hid (Byt (wr.alloc (.cells #[.int .u8 (t : Int), .int .u8 0, .int .u8 0, .int .u8 0, .int .u8 ((s : Int) % 256), .int .u8 ((s : Int) / 256), .int .u8 7] 5)) (.slice (some ⟨wr.heap.size, 0, none⟩) 7 7) [tb, 0, 0, 0, ab, bb, 7]) := by
            have h := Byt.lit wr 5 [tb, 0, 0, 0, ab, bb, 7] (0, 0) (by simp [maxLen])
            have e : (byc [tb, 0, 0, 0, ab, bb, 7]).toArray = #[.int .u8 (t : Int), .int .u8 0, .int .u8 0, .int .u8 0, .int .u8 ((s : Int) % 256), .int .u8 ((s : Int) / 256), .int .u8 7] := by simp [byc, htb, hab, hbb]
            rw [e] at h
            exact h
          have HTB : Hid (tb.toNat < 30) := by rw [Hid]; omega
          have hq32 : (q : Int) < 4294967296 := by have := HQ.out; omega
          clear htb hab hbb
          go_wp2_with fail
          refine (r5bytes_ok _ 7 0 _ _ HBY.out (by omega) (by omega) (by simp) (by have := HQ.out; omega)).mono ?_
          rintro e w5 ⟨v5, rfl, hown5, hb5⟩
          have hb5' : Below wr.heap.size wr w5 := (below_new wr _).trans (hb5.mono (by simp))
          have HO5 := Lib.hid hown5
          have HB5 := Lib.hid hb5'
          have e2 : ((2 + q : Nat) : Int) = 2 + (q : Int) := by omega
          have HE2 := Lib.hid e2
          clear hown5 hb5 hb5' e2
          go_wp2_with fail
          refine (HE2.out ▸ cput_any (HPT.out.below HB5.out) (x := 2 + q) (by have := HQ.out; omega) HO5.out.byt (pageB_len (by simp)) (fun j hj => by
            obtain ⟨h1, h2⟩ := World.ownsRow.lt HO5.out j hj
            refine ⟨fun h => ?_, h2⟩
            have := HPT.out.lt j h
            simp at h1
            omega)).mono ?_
          rintro e w6 ⟨rfl, ho6⟩
          obtain ⟨T6, hpt6, hT6, _, _, hb6⟩ := ho6.own (B := w.heap.size) (Nat.le_trans HB.out.size HB5.out.size) HT.out
          have HPT6 := Lib.hid hpt6
          have HT6 := Lib.hid hT6
          have HB6 : Hid (Below w.heap.size w w6) := HB.out.trans ((HB5.out.mono HB.out.size).trans hb6)
          have HSN6 := Lib.hid (HSN.out.upd (2 + q) (pageB 7 0 [tb, 0, 0, 0, ab, bb, 7]) (by rw [nextN_body]; exact HTB.out))
          clear ho6 hpt6 hT6 hb6
          go_wp2_with fail
          go_roundw
          case rel => exact ⟨q + 1, _, _, by omega, by go_num, HPT6.out, HSN6.out, HT6.out, HB6.out⟩
          case measure => simp [intOf]; omega
        · have hqs : ¬ (q : Int) < (n2 : Int) := by omega
          go_wp2_with fail
          refine (pick_any x1 30 wr (by omega) (by omega)).mono ?_
          rintro e wr' ⟨rfl, rfl⟩
          rw [HT1.out]
          obtain ⟨tb, htb⟩ : ∃ tb : UInt8, (tb.toNat : Int) = (t : Int) := ⟨UInt8.ofNat t, by simp; omega⟩
          obtain ⟨ab, hab⟩ : ∃ ab : UInt8, (ab.toNat : Int) = 234 := ⟨UInt8.ofNat (4074 % 256), by simp; try omega⟩
          obtain ⟨bb, hbb⟩ : ∃ bb : UInt8, (bb.toNat : Int) = 15 := ⟨UInt8.ofNat (4074 / 256), by simp; try omega⟩
          have HBY : Hid (Byt (wr.alloc (.cells #[.int .u8 (t : Int), .int .u8 0, .int .u8 0, .int .u8 0, .int .u8 234, .int .u8 15, .int .u8 7] 5)) (.slice (some ⟨wr.heap.size, 0, none⟩) 7 7) [tb, 0, 0, 0, ab, bb, 7]) := by
            have h := Byt.lit wr 5 [tb, 0, 0, 0, ab, bb, 7] (0, 0) (by simp [maxLen])
            have e : (byc [tb, 0, 0, 0, ab, bb, 7]).toArray = #[.int .u8 (t : Int), .int .u8 0, .int .u8 0, .int .u8 0, .int .u8 234, .int .u8 15, .int .u8 7] := by simp [byc, htb, hab, hbb]
            rw [e] at h
            exact h
          have HTB : Hid (tb.toNat < 30) := by rw [Hid]; omega
          have hq32 : (q : Int) < 4294967296 := by have := HQ.out; omega
          clear htb hab hbb
          go_wp2_with fail
          refine (r5bytes_ok _ 7 0 _ _ HBY.out (by omega) (by omega) (by simp) (by have := HQ.out; omega)).mono ?_
          rintro e w5 ⟨v5, rfl, hown5, hb5⟩
          have hb5' : Below wr.heap.size wr w5 := (below_new wr _).trans (hb5.mono (by simp))
          have HO5 := Lib.hid hown5
          have HB5 := Lib.hid hb5'
          have e2 : ((2 + q : Nat) : Int) = 2 + (q : Int) := by omega
          have HE2 := Lib.hid e2
          clear hown5 hb5 hb5' e2
          go_wp2_with fail
          refine (HE2.out ▸ cput_any (HPT.out.below HB5.out) (x := 2 + q) (by have := HQ.out; omega) HO5.out.byt (pageB_len (by simp)) (fun j hj => by
            obtain ⟨h1, h2⟩ := World.ownsRow.lt HO5.out j hj
            refine ⟨fun h => ?_, h2⟩
            have := HPT.out.lt j h
            simp at h1
            omega)).mono ?_
          rintro e w6 ⟨rfl, ho6⟩
          obtain ⟨T6, hpt6, hT6, _, _, hb6⟩ := ho6.own (B := w.heap.size) (Nat.le_trans HB.out.size HB5.out.size) HT.out
          have HPT6 := Lib.hid hpt6
          have HT6 := Lib.hid hT6
          have HB6 : Hid (Below w.heap.size w w6) := HB.out.trans ((HB5.out.mono HB.out.size).trans hb6)
          have HSN6 := Lib.hid (HSN.out.upd (2 + q) (pageB 7 0 [tb, 0, 0, 0, ab, bb, 7]) (by rw [nextN_body]; exact HTB.out))
          clear ho6 hpt6 hT6 hb6
          go_wp2_with fail
          go_roundw
          case rel => exact ⟨q + 1, _, _, by omega, by go_num, HPT6.out, HSN6.out, HT6.out, HB6.out⟩
          case measure => simp [intOf]; omega
      · obtain rfl : n1 = q := by omega
        clear hlt hq
        go_wp2_with fail
        refine (HPL.out wr).mono ?_
        rintro e wr' ⟨rfl, rfl⟩
        go_wp2_with fail
        go_loopw [20] (fun i wr' => E2Rel w p d fb n1 has i wr') (fun i _ => n1 - (intOf i).toNat)
        case atStart => exact ⟨0, T, Nat.zero_le _, rfl, HPT.out, HT.out, HB.out⟩
        case round =>
          obtain ⟨q, T5, hq, rfl, hpt, hT, hbel⟩ := hrel
          have HP5 := Lib.hid hpt
          have HT5 := Lib.hid hT
          have HB5 := Lib.hid hbel
          clear hpt hT hbel
          by_cases hlt : q < n1
          · have hqn : (q : Int) < (n1 : Int) := by omega
            have HQ : Hid (q < n1 ∧ n1 ≤ 20) := ⟨hlt, HL1.out.2⟩
            have e2 : ((2 + q : Nat) : Int) = 2 + (q : Int) := by omega
            have HE2 := Lib.hid e2
            clear e2 hlt hq
            go_wp2_with fail
            refine (HE2.out ▸ cread_is _ T5 p d fb 30 8 has 7 (2 + q) L HP5.out (.inr (.inr rfl)) (by omega) (by have := HQ.out; omega) (HSN.out.closed 7) (by have := HL30.out; omega)).mono ?_
            intro e w6 ho6
            obtain ⟨T6, hpt6, hT6, _, _, hb6, hend⟩ := ho6.own (B := w.heap.size) HB5.out.size HT5.out
            have HP6 := Lib.hid hpt6
            have HT6 := Lib.hid hT6
            have HB6 : Hid (Below w.heap.size w w6) := HB5.out.trans hb6
            clear ho6 hpt6 hT6 hb6
            cases hr : readT has 7 L [] [] (2 + q) with
            | none =>
              rw [hr] at hend
              obtain rfl : e = .returned (.tuple #[.slice none 0 0, .slice none 0 0, .int .i64 4]) := hend
              clear hr
              go_wp2_with fail
              go_roundw
              case rel => exact ⟨q + 1, T6, by have := HQ.out; omega, by go_num, HP6.out, HT6.out, HB6.out⟩
              case measure => have := HQ.out; simp [intOf]; omega
            | some r =>
              obtain ⟨b, ps⟩ := r
              rw [hr] at hend
              obtain ⟨bv, pv, rfl, hob, hop, _, _⟩ := hend
              obtain ⟨hnd, hle, hne, hin, hneed⟩ := read_some (HSN.out.closed 7) hr (by omega) (by have := HQ.out; omega)
              clear hr
              obtain ⟨Ab, cb, rfl⟩ := ownsRow_form hob
              obtain ⟨Ap, cp, rfl⟩ := ownsRow_form hop
              have HVP : Hid (Rowz w6 (.slice Ap (natC ps).length cp) (natC ps)) := hop.rowz
              have hpl : 0 < ps.length := List.length_pos_iff.2 hne
              have HPP : Hid (0 < ps.length ∧ ps.length ≤ L) := ⟨hpl, hle⟩
              have HNDP := Lib.hid hnd
              have HIN := Lib.hid hin
              have HNE := Lib.hid hneed
              have hbl : b.length < 4611686018427387904 := by have h1 := @needN_up b.length; have := HL30.out; omega
              have HBL := Lib.hid hbl
              rw [natC_len] at HVP ⊢
              have hmm := run_makeI
              obtain ⟨M, hM⟩ : ∃ M, ps.length = M := ⟨_, rfl⟩
              rw [hM] at HVP HPP HNE hle hpl ⊢
              have HM := Lib.hid hM
              have hle1 : (M : Int) ≤ (L : Int) := by omega
              have hle2 : ((M : Int) == 0) = false := by simp; omega
              have hle3 : (M : Int) ≤ 29 := by have := HL30.out; omega
              clear hob hop hnd hle hne hin hneed hpl hbl hM
              go_wp2_with fail
              go_loopw [25] (fun i wr' => MpRel w6 ps i wr') (fun i _ => M - (intOf i).toNat)
              case atStart => exact ⟨0, by omega, rfl, ⟨.map [], World.ownsMap_made _ _ _ _, isMap_empty, fun n => by simp [Maps.has]⟩, below_new w6 _⟩
              case round =>
                obtain ⟨k, hk, rfl, hset, hbel⟩ := hrel
                have HBM := Lib.hid hbel
                obtain ⟨D, hown, hism, hhas⟩ := hset
                have HO := Lib.hid hown
                have HI := Lib.hid hism
                clear hbel hown hism
                rw [HM.out] at hk
                by_cases hkM : k < M
                · have hlt : k < ps.length := by rw [HM.out]; exact hkM
                  have hkn : (k : Int) < (M : Int) := by omega
                  have HKM := Lib.hid hkM
                  obtain ⟨b3, o3, rfl, hb3, hc3⟩ := (HVP.out.below HBM.out).at (k := k) (by rw [natC_len]; exact hlt)
                  have hx3 := (hc3 k (by rw [natC_len]; exact hlt)).trans (show some ((natC ps)[k]'(by rw [natC_len]; exact hlt)) = some (.int .i64 (ps[k] : Int)) by simp [natC])
                  have HT : Hid (ps.take (k + 1) = ps.take k ++ [ps[k]]) := List.take_succ_eq_append_getElem hlt
                  have hnin : ps[k] ∉ ps.take k := fun hm => by
                    have hnd : (ps.take (k + 1)).Nodup := HNDP.out.sublist (List.take_sublist _ _)
                    rw [HT.out, List.nodup_append] at hnd
                    exact hnd.2.2 _ hm _ (List.mem_singleton.2 rfl) rfl
                  have hkey : keyOf Tryd.prog 3 (.int .i64 (ps[k] : Int)) = some (keyL ps[k]) := keyOf_int_mk Tryd.underlying3 (keyL_wf (by have := HIN.out _ (List.getElem_mem hlt); omega))
                  have hh := hhas ps[k]
                  have HH := Lib.hid hhas
                  clear hc3 hhas
                  generalize ps[k] = x at *
                  have hx1 : Maps.has D (keyL x) = false := by rw [hh]; simp [hnin]
                  have HX1 := Lib.hid hx1
                  clear hh hx1 hnin
                  go_wp2_with (first
                    | (at_lookup; refine wpList_lookup_own_int _ rfl _ _ 50 rfl 3 3 .i64 intKeyed mapUnderI Tryd.underlying3 (zeroInt _) w6.heap.size k D rfl HO.out _ (keyL x) rfl hkey ?_; intro c hat _; obtain rfl : c = 0 := by rw [atKey_of_not_has HX1.out] at hat; cases hat; rfl)
                    | (at_mapUpdate; refine wpList_mapUpdate_own _ rfl _ _ _ 50 rfl 3 3 intKeyed mapUnderI (plainElem Tryd.prog 3) w6.heap.size k D rfl HO.out (by unfold maxLen; have := HPP.out; have := HL30.out; omega) _ _ _ rfl rfl hkey _ [] (plainElem_int Tryd.underlying3 (by decide)) ?_; intro w7 hown7 hgrow7))
                  go_roundw
                  case rel =>
                    refine ⟨k + 1, by rw [HM.out]; have := HKM.out; omega, by go_num, ⟨_, hown7, HI.out.put _ _, fun y => ?_⟩, ?_⟩
                    · rw [HT.out]
                      by_cases e : y = x
                      · subst e
                        rw [has_put_same HI.out (show WideAt.IsKeyLit (keyL y) from trivial)]
                        simp
                      · rw [has_put_other (keyL_ne e), HH.out y]
                        simp [e]
                    · exact HBM.out.grown hgrow7 HBM.out.size (fun j hj => by cases hj; exact Nat.le_refl _)
                  case measure => have := HKM.out; simp [intOf]; omega
                · obtain rfl : M = k := by omega
                  have HB7 : Hid (Below w.heap.size w _) := HB6.out.trans (HBM.out.mono HB6.out.size)
                  have HP7 := Lib.hid (HP6.out.below HBM.out)
                  clear hkM hk
                  go_wp2_with fail
                  refine (cneed_any _ (b.length : Int) (by have := HBL.out; omega)).mono ?_
                  rintro e w8 ⟨rfl, rfl⟩
                  rw [show needI (b.length : Int) = needN b.length from rfl, HNE.out]
                  go_wp2_with fail
                  go_roundw
                  case rel => exact ⟨q + 1, T6, by have := HQ.out; omega, by go_num, HP7.out, HT6.out, HB7.out⟩
                  case measure => have := HQ.out; simp [intOf]; omega
          · obtain rfl : n1 = q := by omega
            clear hlt hq
            go_wp2_with fail
            go_ret
            exact ⟨rfl, HB5.out⟩

set_option maxRecDepth 100000 in
theorem walk (w : World) (v1 : Value) (l1 : List Int) (v2 : Value) (l2 : List Int) (al : Bool) (limit : Int) (h1 : Rowz w v1 (l1.map (Value.int .i64))) (h2 : Rowz w v2 (l2.map (Value.int .i64))) (h3 : -9223372036854775808 ≤ limit ∧ limit ≤ 9223372036854775807) :
    Calls Tryd.prog 5 #[v1, v2, .bool al, .int .i64 limit] w fun e w' => e = .returned (.bool true) ∧ Below w.heap.size w w' := by
  by_cases h20 : l1.length ≤ 20 ∧ l2.length ≤ 20
  · have hj1 := Int.emod_nonneg limit (show (30 : Int) ≠ 0 by omega)
    cases al with
    | false => exact walk_false w v1 v2 l1 l2 limit (limit % 30).toNat h1 h2 h20.1 h20.2 (by omega)
    | true => exact walk_true w v1 v2 l1 l2 limit (limit % 30).toNat h1 h2 h20.1 h20.2 (by omega)
  · obtain ⟨A1, n1, c1, rfl, N1, _, _⟩ := h1.form
    obtain ⟨A2, n2, c2, rfl, N2, _, _⟩ := h2.form
    have e1 : n1 = l1.length := by have := N1.out; rw [List.length_map] at this; exact this
    have e2 : n2 = l2.length := by have := N2.out; rw [List.length_map] at this; exact this
    have hc : (20 : Int) < (n1 : Int) ∨ ¬ (20 : Int) < (n1 : Int) ∧ (20 : Int) < (n2 : Int) := by omega
    clear h20 e1 e2 N1 N2
    rcases hc with hc | ⟨hc, hd⟩
    · go_enter Tryd.func5, Tryd.ntmps5
      go_wp2_with fail
      refine (lives9_any w).mono ?_
      rintro e w1 ⟨rfl, hb1⟩
      have HB1 := Lib.hid hb1
      clear hb1
      go_wp2_with fail
      go_ret
      exact ⟨rfl, HB1.out⟩
    · go_enter Tryd.func5, Tryd.ntmps5
      go_wp2_with fail
      refine (lives9_any w).mono ?_
      rintro e w1 ⟨rfl, hb1⟩
      have HB1 := Lib.hid hb1
      clear hb1
      go_wp2_with fail
      go_ret
      exact ⟨rfl, HB1.out⟩

set_option maxRecDepth 100000 in
theorem lifted (os : Os) (started : os.Started) (H : Type) (enc : TypeId × Value → H) :
    ReturnsInHanded {} Tryd.checked os 5 .any (fun w args => (Rows.chainEndsSpec.pre enc Tryd.prog Tryd.f5 Rows.chainEndsRow.domain false w args ∧ laidMetH Tryd.prog Rows.chainEndsRow.laid w) ∧ sizedMet enc Tryd.prog Tryd.f5 (OpenSpec.ofChange Rows.chainEndsSpec) false w args) (Rows.chainEndsSpec.post enc Tryd.prog Tryd.f5 false true false false) := by
  refine returnsInHanded_of_change_and (C := Tryd.checked) (X := fun w _ => laidMetH Tryd.prog Rows.chainEndsRow.laid w) (fun _ _ _ hh h => h.of_heap hh) ownKnobs started (by kernel_rfl) Tryd.func5
    (ChangeSpec.witness_shaped (enc := enc) (C := Tryd.checked) (os := os) (X := fun w _ => laidMetH Tryd.prog Rows.chainEndsRow.laid w) false (World.laidAll Tryd.prog os Rows.chainEndsRow.laid) #[.slice none 0 0, .slice none 0 0, .bool false, .int .i64 0] 8 (World.laidAll_os _ _ _)
      (World.shaped_of_ZipB (by kernel_rfl) (by kernel_rfl)) (by kernel_rfl) (by kernel_rfl) (by kernel_rfl)
      (by rw [MakeChecks.laidMetH_plain _ _ _ (by kernel_rfl)]; exact laidMet_laidAll _ (by kernel_rfl) (by kernel_rfl))) ?_
  intro W base args ds gs before hval0 hW hcnd _ _ _
  have hval : ∀ (j : Nat) t v, Tryd.f5.params[j]? = some t → args[j]? = some v → Value.okWide Tryd.prog W .any base t v := hval0
  have hW' := hW
  obtain ⟨p, q, hA0, hV, rfl, hfz, hnd⟩ := hW
  have hA : DataW.TrodAll enc Tryd.prog W 0 (fun _ => true) true Tryd.f5.params.toList args.toList ds p := hA0
  rw [Tryd.params5] at hA hval
  obtain ⟨v0, vs0, d0, ds0, p0, q0, hargs, rfl, rfl, h0, r0⟩ := trodAll_cons hA
  obtain ⟨v1, vs1, d1, ds1, p1, q1, rfl, rfl, rfl, h1, r1⟩ := trodAll_cons r0
  obtain ⟨v2, vs2, d2, ds2, p2, q2, rfl, rfl, rfl, h2, r2⟩ := trodAll_cons r1
  obtain ⟨v3, vs3, d3, ds3, p3, q3, rfl, rfl, rfl, h3, r3⟩ := trodAll_cons r2
  obtain ⟨rfl, rfl, rfl⟩ := trodAll_nil r3
  obtain rfl : args = #[v0, v1, v2, v3] := by cases args; simp_all
  obtain ⟨rfl, rfl⟩ := trodVars_none hV
  have k0 := h0
  have lt0 : ∀ x ∈ p0, x.block < W.heap.size := by obtain ⟨m, hm⟩ := k0; exact DataW.trod_lt m _ _ _ hm
  obtain ⟨l0, b0⟩ := open_introw (hval 0 26 v0 rfl rfl) h0
  have k1 := h1
  have lt1 : ∀ x ∈ p1, x.block < W.heap.size := by obtain ⟨m, hm⟩ := k1; exact DataW.trod_lt m _ _ _ hm
  obtain ⟨l1, b1⟩ := open_introw (hval 1 26 v1 rfl rfl) h1
  obtain ⟨a2, rfl, rfl, rfl⟩ := open_bool Tryd.underlying4 (hval 2 4 v2 rfl rfl) h2
  obtain ⟨a3, rfl, rfl, rfl, w3⟩ := open_int Tryd.underlying3 (hval 3 3 v3 rfl rfl) h3
  have b3 := open_i64 w3
  clear hA0 hval0
  refine (walk W v0 l0 v1 l1 a2 a3 b0 b1 b3).mono fun e W' ⟨he, bel⟩ => ?_
  subst he
  exact ⟨_, rfl, _, _, _, [], _, [], hW', trodAll_mk1 (shut_bool Tryd.underlying4 _), (trodAll_cons_mk (Below.trod laidOuts (by kernel_rfl) (of_decide_eq_true (by kernel_rfl)) k0 bel lt0) (trodAll_cons_mk (Below.trod laidOuts (by kernel_rfl) (of_decide_eq_true (by kernel_rfl)) k1 bel lt1) (trodAll_cons_mk (shut_bool Tryd.underlying4 _) (trodAll_cons_mk (shut_int Tryd.underlying3 w3) trodAll_mk0)))), rfl, bel.frame _, fun h => by cases h⟩

theorem over : Rows.chainEndsRow.holds Tryd.pinned (OpenSpec.ofChange Rows.chainEndsSpec) :=
  OpenClaim.holds_of_wide 5 Tryd.f5 rfl rfl rfl rfl rfl rfl rfl ⟨rfl, rfl, rfl, rfl, rfl⟩ rfl rfl rfl rfl rfl (by kernel_rfl) Tryd.func5 (by kernel_rfl)
    (of_decide_eq_true (by kernel_rfl)) (by unfold Func.isWrapper; first | (rw [if_pos (by decide +kernel)]; kernel_rfl) | (rw [if_neg (by decide +kernel)]; exact ⟨rfl, rfl⟩))
    (fun os started H enc _ => lifted os started H enc)

theorem proved : Rows.ChainEndsCardSaid :=
  Claim7.holds_tied_plain_at .later [] [.data, .pinned] true Rows.chainEndsCard.stood.harness false over (fun _ h => by cases h) (by kernel_rfl) (fun _ h => by cases h) chainEnds_row_tie rfl ⟨rfl, rfl⟩ (by kernel_rfl) rfl
    (fun f fn hf hfn => by
      obtain rfl : f = 5 := Option.some.inj ((show Tryd.prog.funcNamed "tallyman/tallymanlaw09.ChainEnds" = some 5 by kernel_rfl).symm.trans hf) |>.symm
      obtain rfl : fn = Tryd.f5 := (Option.some.inj (Tryd.func5.symm.trans hfn)).symm
      exact ⟨by kernel_rfl, fun j t ht => by
        rw [Tryd.params5] at ht
        have hm : t ∈ [26, 26, 4, 3] := by simpa using Array.mem_of_getElem? ht
        have hall : ([26, 26, 4, 3].all fun u => !Tryd.prog.wantsStandIn u) = true := by kernel_rfl
        exact (show Tryd.prog.wantsStandIn t = false by simpa using List.all_eq_true.1 hall t hm)⟩)
    (by kernel_rfl)
#print axioms proved
end Go.Proofs.YtknagdbhhfelnaaDoor.chainEnds

