/-
  The statement SectorNames: the chapter's examples come out as it tells. Conditions: none.
-/
import Derived.Test.YtlikbnhplfchiaaSecN
import Derived.Test.YtlikbnhplfchiaaOpen
namespace Go.Proofs.Ytlikbnhplfchiaa.sectorNames
open Go.ChangeShapes Go.WideShapes Go.ChangeAt Go.RowKit Go.Maps
set_option linter.unusedVariables false

def n0 : St := ofS (rowB 120)
def n1 : St := failS n0 0
def n2 : St := tick n1
def n3 : St := settleS (fun _ => 512) (tick n2)
theorem n_s0 : secs n0 = 1 := by unfold secs; rw [show n0.B.length = 512 from rowB_len 120]
theorem n_ok0 : OkSt n0 := OkSt.of (by rw [rowB_len]; omega) (by rw [rowB_len]) (by rw [rowB_len]; omega)
theorem secs_fail (s : St) (a : Int) : secs (failS s a) = secs s := rfl
theorem n_s1 : secs n1 = 1 := by unfold n1; rw [secs_fail, n_s0]
theorem n_ok1 : OkSt n1 := n_ok0.fail (by omega)
theorem n_ok2 : OkSt (tick n2) := n_ok1.tick.tick
theorem n_s3 : secs n3 = 1 := (secs_settle _ n_ok2).trans n_s0
theorem n_r1 : readR n0 1 = ([], 2, n0) := by unfold readR; rw [if_neg (by rw [n_s0]; decide)]
theorem n_r0 : readR n1 0 = ([], 8, n2) := by unfold readR; rw [if_pos (by rw [n_s1]; decide)]; rfl
theorem n_fl : flushR n2 = (0, n3) := rfl
theorem n_wr : writeR n3 0 [] = (2, n3) := by unfold writeR; rw [if_neg (fun h => by cases h.2)]

set_option maxRecDepth 100000 in
set_option maxHeartbeats 4000000 in
theorem walk (w : World) : Calls Try.prog 3 #[] w fun e w' => e = .returned (.bool true) ∧ Below w.heap.size w w' := by
  obtain ⟨i0, hi0, hz0, hz1, hz2⟩ := info_parts uinfo
  have N0 : Hid (∀ w, Calls Try.prog 8 #[.int .i64 0] w fun e w' => e = .returned (.tuple #[.pointer none, .int .i64 2]) ∧ w = w') := fun w => snew_bad w 0 (by omega)
  have RX : Hid (∀ w, Calls Try.prog 10 #[.int .u8 120] w (Made w (rowB 120))) := fun w => lrow_any w 120
  have OX : Hid (∀ w v, Byt w v (rowB 120) → Calls Try.prog 9 #[v] w (Disked w n0)) := fun w v h => sof_any w v _ h ⟨by rw [rowB_len]; omega, by rw [rowB_len], by rw [rowB_len]; omega⟩
  have R1 : Hid (∀ w S g, Dsk w S g n0 → Calls Try.prog 12 #[.pointer (some ⟨g, 0, none⟩), .int .i64 1] w (Red w S g ([], 2, n0))) := fun w S g h => n_r1 ▸ read_is w S g n0 1 h
  have FA : Hid (∀ w S g, Dsk w S g n0 → Calls Try.prog 13 #[.pointer (some ⟨g, 0, none⟩), .int .i64 0] w (Done w S g (0, n1))) := fun w S g h => fail_is w S g n0 0 h (by omega)
  have R0 : Hid (∀ w S g, Dsk w S g n1 → Calls Try.prog 12 #[.pointer (some ⟨g, 0, none⟩), .int .i64 0] w (Red w S g ([], 8, n2))) := fun w S g h => n_r0 ▸ read_is w S g n1 0 h
  have FL : Hid (∀ w S g, Dsk w S g n2 → Calls Try.prog 14 #[.pointer (some ⟨g, 0, none⟩)] w (Done w S g (0, n3))) := fun w S g h => n_fl ▸ flush_is w S g n2 h
  have SE : Hid (∀ w S g, Dsk w S g n3 → Calls Try.prog 15 #[.pointer (some ⟨g, 0, none⟩)] w fun e w' => e = .returned (.int .i64 1) ∧ w = w') := fun w S g h => by
    have := sectors_any w S g n3 h
    rw [n_s3] at this
    exact this
  have WR : Hid (∀ w S g, Dsk w S g n3 → Calls Try.prog 16 #[.pointer (some ⟨g, 0, none⟩), .int .i64 0, .slice none 0 0] w (Done w S g (2, n3))) := fun w S g h => n_wr ▸ write_any w S g n3 0 _ [] h (Byt.nil w) (fun k hk => by cases hk)
  generalize n3 = m3 at *
  generalize n2 = m2 at *
  generalize n1 = m1 at *
  generalize n0 = m0 at *
  go_enter Try.func3, Try.ntmps3
  go_wp2_with fail
  refine (N0.out _).mono ?_
  rintro e w1 ⟨rfl, rfl⟩
  go_wp2_with (at_make; refine wpList_make_full _ rfl _ _ 27 rfl w.heap.size 5 i0 _ 1 Try.underlying27 hi0 hz0 hz1 _ _ _ _ 511 rfl rfl rfl rfl (by rw [hz2]; omega) (by simp [maxLen]) (Nat.le_refl _) ?_; intro w1 hown1 hg1)
  have hv1 : Byt w1 (.slice (some ⟨w.heap.size, 0, none⟩) 511 511) (List.replicate 511 0) := by
    have e1 : (madeCells (Value.cells (.int .u8 0)) (511 * 1)).toList = byc (List.replicate 511 0) := by
      rw [show (Value.cells (.int .u8 0)) = #[.int .u8 0] from rfl, toList_madeCells_one, Nat.mul_one]
      unfold byc
      rw [List.map_replicate]
      rfl
    rw [e1] at hown1
    have h : Own w1 w.heap.size 5 (.slice (some ⟨w.heap.size, 0, none⟩) 511 511) (List.replicate 511 0) := by
      unfold Own
      rw [List.length_replicate]
      exact hown1
    exact h.byt
  have HV1 := Lib.hid hv1
  have HB1 := Lib.hid (below_none hg1)
  clear hv1 hown1 hg1
  refine (sof_bad _ _ _ HV1.out (by unfold MayOf; rw [List.length_replicate]; omega)).mono ?_
  rintro e w2 ⟨rfl, rfl⟩
  go_wp2_with fail
  refine (RX.out _).mono ?_
  rintro e w2 ⟨v2, rfl, hown2, hb2⟩
  have HV2 := Lib.hid hown2.byt
  have HB2 := Lib.hid (HB1.out.trans (hb2.mono HB1.out.size))
  clear hown2 hb2
  go_wp2_with fail
  refine (OX.out _ _ HV2.out).mono ?_
  rintro e w3 ⟨g, rfl, hd3, hb3⟩
  obtain ⟨S3, HD3, HS3⟩ : ∃ S3, Hid (Dsk w3 S3 g m0) ∧ Hid (∀ k, S3 k → w.heap.size ≤ k) := ⟨_, hd3, fun k hk => Nat.le_trans HB2.out.size hk.1⟩
  have HB3 := Lib.hid (HB2.out.trans (hb3.mono HB2.out.size))
  clear hd3 hb3
  go_wp2_with fail
  refine (lives4_any _).mono ?_
  rintro e w4 ⟨rfl, hb4⟩
  have HD4 := Lib.hid (HD3.out.below hb4)
  have HB4 := Lib.hid (HB3.out.trans (hb4.mono HB3.out.size))
  clear hb4
  go_wp2_with fail
  refine (R1.out _ S3 g HD4.out).mono ?_
  rintro e w5 ⟨v5, rfl, _, hd5, ht5⟩
  have HD5 := Lib.hid hd5
  have HB5 := Lib.hid (HB4.out.trans (ht5.below HB4.out.size HS3.out))
  clear hd5 ht5
  go_wp2_with fail
  refine (FA.out _ S3 g HD5.out).mono ?_
  intro e w6 hdone
  obtain ⟨rfl, S6, hd6, hS6, _, ht6⟩ := hdone.own HB5.out.size HS3.out
  have HD6 := Lib.hid hd6
  have HS6 := Lib.hid hS6
  have HB6 := Lib.hid (HB5.out.trans (ht6.below HB5.out.size HS3.out))
  clear hdone hd6 hS6 ht6
  go_wp2_with fail
  refine (R0.out _ S6 g HD6.out).mono ?_
  rintro e w7 ⟨v7, rfl, _, hd7, ht7⟩
  have HD7 := Lib.hid hd7
  have HB7 := Lib.hid (HB6.out.trans (ht7.below HB6.out.size HS6.out))
  clear hd7 ht7
  go_wp2_with fail
  refine (FL.out _ S6 g HD7.out).mono ?_
  intro e w8 hdone
  obtain ⟨rfl, S8, hd8, hS8, _, ht8⟩ := hdone.own HB7.out.size HS6.out
  have HD8 := Lib.hid hd8
  have HS8 := Lib.hid hS8
  have HB8 := Lib.hid (HB7.out.trans (ht8.below HB7.out.size HS6.out))
  clear hdone hd8 hS8 ht8
  go_wp2_with fail
  refine (SE.out _ S8 g HD8.out).mono ?_
  rintro e w9 ⟨rfl, rfl⟩
  go_wp2_with fail
  refine (WR.out _ S8 g HD8.out).mono ?_
  intro e w9 hdone
  obtain ⟨rfl, S9, hd9, hS9, _, ht9⟩ := hdone.own HB8.out.size HS8.out
  have HB9 := Lib.hid (HB8.out.trans (ht9.below HB8.out.size HS8.out))
  clear hdone hd9 hS9 ht9
  go_wp2_with fail
  go_ret
  exact ⟨rfl, HB9.out⟩

set_option maxRecDepth 100000 in
theorem lifted (os : Os) (started : os.Started) (H : Type) (enc : TypeId × Value → H) :
    ReturnsInHanded {} Try.checked os 3 .any (Rows.sectorNamesSpec.pre6 enc Try.prog Try.f3 Rows.sectorNamesRow.domain false) (Rows.sectorNamesSpec.post enc Try.prog Try.f3 false true false false) := by
  refine returnsInHanded_of_change (C := Try.checked) ownKnobs started (by kernel_rfl) Try.func3
    (ChangeSpec.witness6 (enc := enc) (C := Try.checked) false ⟨#[], #[], []⟩ 8 (by kernel_rfl) (by kernel_rfl) (by kernel_rfl) (by kernel_rfl)) ?_
  intro W base args ds gs before hval0 hW hcnd _
  have hval : ∀ (j : Nat) t v, Try.f3.params[j]? = some t → args[j]? = some v → Value.okWide Try.prog W .any base t v := hval0
  have hW' := hW
  obtain ⟨p, q, hA0, hV, rfl, hfz, hnd⟩ := hW
  have hA : DataW.TrodAll enc Try.prog W 0 (fun _ => true) true Try.f3.params.toList args.toList ds p := hA0
  rw [Try.params3] at hA hval
  obtain ⟨rfl, rfl, rfl⟩ := trodAll_none hA
  obtain ⟨rfl, rfl⟩ := trodVars_none hV
  clear hA0 hval0
  refine (walk W ).mono fun e W' ⟨he, bel⟩ => ?_
  subst he
  exact ⟨_, rfl, _, _, _, [], _, [], hW', trodAll_mk1 (shut_bool Try.underlying4 _), trodAll_mk0, rfl, bel.frame _, fun h => by cases h⟩

theorem over : Rows.sectorNamesRow.holds Try.pinned (OpenSpec.ofChange Rows.sectorNamesSpec) :=
  OpenClaim.holds_of_wide 3 Try.f3 rfl rfl rfl rfl rfl rfl rfl ⟨rfl, rfl, rfl, rfl, rfl⟩ rfl rfl rfl rfl rfl (by kernel_rfl) Try.func3 (by kernel_rfl)
    (of_decide_eq_true (by kernel_rfl)) (by unfold Func.isWrapper; first | (rw [if_pos (by decide +kernel)]; kernel_rfl) | (rw [if_neg (by decide +kernel)]; exact ⟨rfl, rfl⟩))
    (fun os started H enc _ => lifted os started H enc)

theorem proved : Rows.SectorNamesSaid := over
#print axioms proved
end Go.Proofs.Ytlikbnhplfchiaa.sectorNames
