/-
  The statement PoolNames: the chapter's examples come out as it tells. Conditions: none.
-/
import Derived.Test.YtmfcckmcbmlhmaaPlM
import Derived.Test.YtmfcckmcbmlhmaaOpen
namespace Go.Proofs.Ytmfcckmcbmlhmaa.poolNames
open Go.ChangeShapes Go.WideShapes Go.ChangeAt Go.RowKit Go.Maps
set_option maxRecDepth 100000
set_option linter.unusedVariables false

section
variable (s0 : St) (z : List UInt8)
def n0 : PSt := newQ s0 8
def n1 : PSt := ⟨⟨true, 1, 0, false, true, z⟩ :: List.replicate 7 zeroF, 0, s0⟩
variable {s0 : St} {z : List UInt8} (h0 : errA s0 0 = 0) (h1 : errA s0 1 = 0) (h2 : errA s0 2 = 2) (h5 : errA s0 5 = 2) (hl : loadP s0 1 = (z, 0, s0)) (hz : z.length = 4096)
include h2 in
theorem get2 : getQ (n0 s0) 2 = ([], 2, n0 s0) := by
  have : fetchQ (n0 s0) 2 = (2, 0, n0 s0) := by
    have e : errA (n0 s0).s 2 = 2 := h2
    unfold fetchQ
    rw [e]
    rfl
  unfold getQ
  rw [this]
  rfl
include h1 hl in
theorem get1 : getQ (n0 s0) 1 = (z, 0, n1 s0 z) := by
  have hr : roomQ (n0 s0) = (0, 0, n0 s0) := rfl
  have : fetchQ (n0 s0) 1 = (0, 0, n1 s0 z) := by
    have e : errA (n0 s0).s 1 = 0 := h1
    have hf : ¬ findF (n0 s0).fr 1 < (n0 s0).fr.length := show ¬ (8 : Nat) < 8 by decide
    unfold fetchQ
    rw [if_pos e, if_neg hf, hr]
    unfold intoQ
    have hl' : loadP ((0, 0, n0 s0) : Nat × Nat × PSt).2.2.s 1 = (z, 0, s0) := hl
    rw [hl']
    rfl
  unfold getQ
  rw [this]
  rfl
theorem unpin1 : unpinQ (n1 s0 z) 1 = (6, n1 s0 z) := rfl
theorem evict8 : evictQ (n1 s0 z) 8 = (2, n1 s0 z) := rfl
theorem evict7 : evictQ (n1 s0 z) 7 = (6, n1 s0 z) := rfl
theorem evict0 : evictQ (n1 s0 z) 0 = (0, n0 s0) := rfl
include h0 in
theorem put0 : putQ (n0 s0) 0 [] = (2, n0 s0) := by
  have e : errA (n0 s0).s 0 = 0 := h0
  unfold putQ
  rw [if_pos e]
  rfl
include h5 in
theorem drop5 : dropQ (n0 s0) 5 = (2, n0 s0) := by
  have e : errA (n0 s0).s 5 = 2 := h5
  unfold dropQ
  rw [e]
  rfl
end
set_option maxRecDepth 100000 in
set_option maxHeartbeats 4000000 in
theorem walk (w : World) : Calls Try.prog 3 #[] w fun e w' => e = .returned (.bool true) ∧ Below w.heap.size w w' := by
  have hsec : secs (newS 16) = 16 := secs_new 16
  have g0 : errA (newS 16) 0 = 0 := err_in ⟨by omega, by rw [hsec]; omega⟩
  have g1 : errA (newS 16) 1 = 0 := err_in ⟨by omega, by rw [hsec]; omega⟩
  have g2 : errA (newS 16) 2 = 2 := if_neg (by rw [hsec]; omega)
  have g5 : errA (newS 16) 5 = 2 := if_neg (by rw [hsec]; omega)
  have hl : loadP (newS 16) 1 = (zsB 4096, 0, newS 16) := loadP_holds (n := 1) rfl (by rw [hsec]; omega) (zsB_len 4096) ((new_t 2 8 (by omega) (by omega) (by omega)).out 1 (by omega) (fun i hi => by
    have : (newQ (newS (8 * 2)) 8).fr.getD i zeroF = zeroF := by
      simp only [newQ, List.getD_eq_getElem?_getD, List.getElem?_replicate]
      split <;> rfl
    rw [this]; rfl)).1
  have HZ : Hid ((zsB 4096).length = 4096) := zsB_len _
  have HG2 : Hid (getQ (newQ (newS 16) 8) 2 = ([], 2, newQ (newS 16) 8)) := get2 g2
  have HG1 : Hid (getQ (newQ (newS 16) 8) 1 = (zsB 4096, 0, n1 (newS 16) (zsB 4096))) := get1 g1 hl
  have HU : Hid (unpinQ (n1 (newS 16) (zsB 4096)) 1 = (6, n1 (newS 16) (zsB 4096)) ∧ ((n1 (newS 16) (zsB 4096)).fr.getD (findF (n1 (newS 16) (zsB 4096)).fr 1) zeroF).pins = 0) := ⟨unpin1, rfl⟩
  have HE8 : Hid (evictQ (n1 (newS 16) (zsB 4096)) 8 = (2, n1 (newS 16) (zsB 4096))) := evict8
  have HE7 : Hid (evictQ (n1 (newS 16) (zsB 4096)) 7 = (6, n1 (newS 16) (zsB 4096))) := evict7
  have HE0 : Hid (evictQ (n1 (newS 16) (zsB 4096)) 0 = (0, newQ (newS 16) 8)) := evict0
  have HPU : Hid (putQ (newQ (newS 16) 8) 0 [] = (2, newQ (newS 16) 8)) := put0 g0
  have HDR : Hid (dropQ (newQ (newS 16) 8) 5 = (2, newQ (newS 16) 8)) := drop5 g5
  have HN : Hid (∀ w, Calls Try.prog 8 #[.int .i64 16] w (Disked w (newS 16))) := fun w => snew_any w 16 (by omega) (by omega)
  have HSEC := Lib.hid hsec
  clear g0 g1 g2 g5 hl hsec
  generalize zsB 4096 = z at *
  generalize n1 (newS 16) z = P1 at *
  generalize hP0 : newQ (newS 16) 8 = P0 at *
  have HP0 := Lib.hid hP0
  clear hP0
  generalize newS 16 = s0 at *
  go_enter Try.func3, Try.ntmps3
  go_wp2_with fail
  refine (pnew_nil w 8).mono ?_
  rintro e w0 ⟨rfl, rfl⟩
  go_wp2_with fail
  refine (HN.out w).mono ?_
  rintro e w1 ⟨d, rfl, hd1, hb1⟩
  have HB1 := Lib.hid hb1
  have HD1 := Lib.hid hd1
  clear hb1 hd1
  go_wp2_with fail
  refine (pnew_bad w1 _ d s0 7 HD1.out (.inr (.inl (by omega)))).mono ?_
  rintro e w2 ⟨rfl, rfl⟩
  go_wp2_with fail
  refine (pnew_is w1 _ d s0 8 HD1.out (by rw [HSEC.out]; omega) (by omega) (by omega)).mono ?_
  rintro e w2 ⟨p, fb, rfl, hp2, hb2⟩
  rw [HP0.out] at hp2
  have HP2 := Lib.hid hp2
  have HT2 : Hid (∀ k, more (fun k => w.heap.size ≤ k ∧ k < w1.heap.size) w1 w2 k → w.heap.size ≤ k) := fun k hk => hk.elim (fun e => e.1) (fun e => by have := HB1.out.size; omega)
  have HB2 : Hid (Below w.heap.size w w2) := HB1.out.trans (hb2.mono HB1.out.size)
  clear hp2 hb2 HD1
  go_wp2_with fail
  have hc := pget_is HP2.out 2 (by rw [HG2.out]; simp)
  rw [HG2.out] at hc
  refine hc.mono ?_
  intro e w3 hgo
  obtain ⟨v3, T3, rfl, _, hp3, hT3, _, hb3⟩ := hgo.own (B := w.heap.size) HB2.out.size HT2.out
  have HP3 := Lib.hid hp3
  have HT3 := Lib.hid hT3
  have HB3 : Hid (Below w.heap.size w w3) := HB2.out.trans hb3
  clear hgo hp3 hT3 hb3 hc
  go_wp2_with fail
  have hc := pget_is HP3.out 1 (by rw [HG1.out]; simp [HZ.out])
  rw [HG1.out] at hc
  refine hc.mono ?_
  intro e w4 hgo
  obtain ⟨v4, T4, rfl, hown4, hp4, hT4, _, hb4⟩ := hgo.own (B := w.heap.size) HB3.out.size HT3.out
  obtain ⟨A4, m4, c4, rfl, N4, hnc4, hcm4⟩ := hown4.byt.form
  obtain rfl : m4 = 4096 := by have := N4.out; rw [this]; exact HZ.out
  have HP4 := Lib.hid hp4
  have HT4 := Lib.hid hT4
  have HB4 : Hid (Below w.heap.size w w4) := HB3.out.trans hb4
  clear hgo hp4 hT4 hb4 hc hown4 N4
  go_wp2_with fail
  refine (lives7_any _).mono ?_
  rintro e w5 ⟨rfl, hb5⟩
  have HP5 := Lib.hid (HP4.out.below hb5)
  have HB5 : Hid (Below w.heap.size w w5) := HB4.out.trans (hb5.mono HB4.out.size)
  have HT5 := HT4
  clear hb5
  go_wp2_with fail
  have hc := HU.out.1 ▸ punpin_is HP5.out 1 (by rw [HU.out.2]; omega)
  refine hc.mono ?_
  intro e w6 hpo
  obtain ⟨rfl, T6, hp6, hT6, _, hb6⟩ := hpo.own (B := w.heap.size) HB5.out.size HT5.out
  have HP6 := Lib.hid hp6
  have HT6 := Lib.hid hT6
  have HB6 : Hid (Below w.heap.size w w6) := HB5.out.trans hb6
  clear hpo hp6 hT6 hb6 hc
  go_wp2_with fail
  have hc := HE8.out ▸ pevict_is HP6.out 8
  refine hc.mono ?_
  intro e w7 hpo
  obtain ⟨rfl, T7, hp7, hT7, _, hb7⟩ := hpo.own (B := w.heap.size) HB6.out.size HT6.out
  have HP7 := Lib.hid hp7
  have HT7 := Lib.hid hT7
  have HB7 : Hid (Below w.heap.size w w7) := HB6.out.trans hb7
  clear hpo hp7 hT7 hb7 hc
  go_wp2_with fail
  have hc := HE7.out ▸ pevict_is HP7.out 7
  refine hc.mono ?_
  intro e w8 hpo
  obtain ⟨rfl, T8, hp8, hT8, _, hb8⟩ := hpo.own (B := w.heap.size) HB7.out.size HT7.out
  have HP8 := Lib.hid hp8
  have HT8 := Lib.hid hT8
  have HB8 : Hid (Below w.heap.size w w8) := HB7.out.trans hb8
  clear hpo hp8 hT8 hb8 hc
  go_wp2_with fail
  have hc := HE0.out ▸ pevict_is HP8.out 0
  refine hc.mono ?_
  intro e w9 hpo
  obtain ⟨rfl, T9, hp9, hT9, _, hb9⟩ := hpo.own (B := w.heap.size) HB8.out.size HT8.out
  have HP9 := Lib.hid hp9
  have HT9 := Lib.hid hT9
  have HB9 : Hid (Below w.heap.size w w9) := HB8.out.trans hb9
  clear hpo hp9 hT9 hb9 hc
  go_wp2_with fail
  have hc := HPU.out ▸ pput_is HP9.out 0 (.slice none 0 0) [] (Byt.nil _) (fun k hk => by cases hk)
  refine hc.mono ?_
  intro e w10 hpo
  obtain ⟨rfl, T10, hp10, hT10, _, hb10⟩ := hpo.own (B := w.heap.size) HB9.out.size HT9.out
  have HP10 := Lib.hid hp10
  have HT10 := Lib.hid hT10
  have HB10 : Hid (Below w.heap.size w w10) := HB9.out.trans hb10
  clear hpo hp10 hT10 hb10 hc
  go_wp2_with fail
  have hc := HDR.out ▸ pdrop_is HP10.out 5
  refine hc.mono ?_
  intro e w11 hpo
  obtain ⟨rfl, T11, hp11, hT11, _, hb11⟩ := hpo.own (B := w.heap.size) HB10.out.size HT10.out
  have HP11 := Lib.hid hp11
  have HT11 := Lib.hid hT11
  have HB11 : Hid (Below w.heap.size w w11) := HB10.out.trans hb11
  clear hpo hp11 hT11 hb11 hc
  go_wp2_with fail
  go_ret
  exact ⟨rfl, HB11.out⟩

set_option maxRecDepth 100000 in
theorem lifted (os : Os) (started : os.Started) (H : Type) (enc : TypeId × Value → H) :
    ReturnsInHanded {} Try.checked os 3 .any (Rows.poolNamesSpec.pre6 enc Try.prog Try.f3 Rows.poolNamesRow.domain false) (Rows.poolNamesSpec.post enc Try.prog Try.f3 false true false false) := by
  refine returnsInHanded_of_change (C := Try.checked) ownKnobs started (by kernel_rfl) Try.func3
    (ChangeSpec.witness6 (enc := enc) (C := Try.checked) false ⟨#[], #[], []⟩ 8 (by kernel_rfl) (by kernel_rfl) (by kernel_rfl) (by kernel_rfl)) ?_
  intro W base args ds gs before hval0 hW hcnd _
  have hval : ∀ (j : Nat) t v, Try.f3.params[j]? = some t → args[j]? = some v → Value.okWide Try.prog W .any base t v := hval0
  have hW' := hW
  obtain ⟨p, q, hA0, hV, rfl, hfz, hnd⟩ := hW
  have hA : DataW.TrodAll enc Try.prog W 0 (fun _ => true) true Try.f3.params.toList args.toList ds p := hA0
  rw [Try.params3] at hA hval
  obtain ⟨rfl, rfl, rfl⟩ := trodAll_none hA
  obtain ⟨rfl, rfl⟩ := trodVars_none hV
  clear hA0 hval0
  refine (walk W ).mono fun e W' ⟨he, bel⟩ => ?_
  subst he
  exact ⟨_, rfl, _, _, _, [], _, [], hW', trodAll_mk1 (shut_bool Try.underlying4 _), trodAll_mk0, rfl, bel.frame _, fun h => by cases h⟩

theorem over : Rows.poolNamesRow.holds Try.pinned (OpenSpec.ofChange Rows.poolNamesSpec) :=
  OpenClaim.holds_of_wide 3 Try.f3 rfl rfl rfl rfl rfl rfl rfl ⟨rfl, rfl, rfl, rfl, rfl⟩ rfl rfl rfl rfl rfl (by kernel_rfl) Try.func3 (by kernel_rfl)
    (of_decide_eq_true (by kernel_rfl)) (by unfold Func.isWrapper; first | (rw [if_pos (by decide +kernel)]; kernel_rfl) | (rw [if_neg (by decide +kernel)]; exact ⟨rfl, rfl⟩))
    (fun os started H enc _ => lifted os started H enc)

theorem proved : Rows.PoolNamesSaid := over
#print axioms proved
end Go.Proofs.Ytmfcckmcbmlhmaa.poolNames

