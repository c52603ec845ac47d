/-
  The texts RtX, RtY, RtZ in one. Conditions: as each part says.
-/
import Derived.Test.YteeljcnmgfjcmaaGreatDoorMg10
import Derived.Test.YteeljcnmgfjcmaaGreatDoorMg9
import Derived.Test.YteeljcnmgfjcmaaGreatDoorMg8
import Derived.Test.YteeljcnmgfjcmaaGreatDoorCRtP
/-
  The document's answer for roots (tallymanref06): Write over its own disk, by its contract. Conditions: none but that the disk lies there, and that a root's numbers are those of 64 bits.
-/
namespace Go.Proofs.YteeljcnmgfjcmaaGreatDoor
open Go.RowKit Go.Maps
set_option maxRecDepth 100000

theorem rdone_up {w w5 w9 : World} {S : Nat → Prop} {d : Nat} {r : Nat × St} {e : Ending} (hS : ∀ k, S k → k < w.heap.size) (hb : Below w.heap.size w w5) (h : RDone w5 S d r e w9) : RDone w S d r e w9 := by
  obtain ⟨h1, h2, h3⟩ := h
  refine ⟨h1, h2.wide (fun k hk => hk.elim .inl (fun q => .inr ⟨Nat.le_trans hb.size q.1, q.2⟩)) (more_lt (Nat.le_trans hb.size h3.size) hS), ?_⟩
  exact ⟨h3.os.trans hb.os, h3.tape.trans hb.tape, h3.output.trans hb.output, Nat.le_trans hb.size h3.size, fun k hk hs => (h3.block k (Nat.lt_of_lt_of_le hk hb.size) hs).trans (hb.block k hk)⟩
theorem rdone_quiet {w w5 : World} {S : Nat → Prop} {d n : Nat} {s : St} (h : Ref w S d s) (hb : Below w.heap.size w w5) : RDone w S d (n, s) (.returned (.int .i64 (n : Int))) w5 :=
  ⟨rfl, (h.below hb).more hb.size h.lt, Trn.of_below hb⟩
set_option maxRecDepth 100000 in
set_option maxHeartbeats 4000000 in
theorem r6write_is (w : World) (S : Nat → Prop) (d : Nat) (s : St) (r : Rt) (h : Ref w S d s) (hwf : r.Wf) :
    Calls Tryz.prog 9 #[.pointer (some ⟨d, 0, none⟩), .agg (rtV r)] w (RDone w S d (writeP s r)) := by
  obtain ⟨w0, hw0⟩ : ∃ w0, w.alloc (.cells (rtV r) 39) = w0 := ⟨_, rfl⟩
  have HX0 : Hid (RBox (w.alloc (.cells (rtV r) 39)) w.heap.size r) := RBox.new w r
  have HB0 : Hid (Below w.heap.size w w0) := hw0 ▸ below_new w _
  have HW0 := Lib.hid hw0
  have H := Lib.hid h
  have HF := Lib.hid hwf
  clear hw0 h hwf
  by_cases hok : okR r
  · by_cases hp : r.p = secs s / 8
    · have hq : writeP s r = saveP s ((r.e % 2 : Nat) : Int) (rootB r) := by unfold writeP; rw [if_pos hok, if_pos hp]
      rw [hq]
      clear hq
      have hp1 : IntKind.u64.wrap (r.p : Int) = (r.p : Int) := by rw [IntKind.wrap_u64]; have := HF.out.p; omega
      have HP := Lib.hid hp
      clear hp
      generalize hQ : saveP s ((r.e % 2 : Nat) : Int) (rootB r) = q
      have HQ := Lib.hid hQ
      clear hQ
      go_enter Tryz.func9, Tryz.ntmps9
      go_wp2_with (with_reducible (show wpList _ _ _ (⟨_, Op.load 39 _, _, _, _, _⟩ :: _) _ _); refine wpList_loadRt rfl _ rfl _ rfl _ HX0.out ?_)
      rw [HW0.out] at HX0 ⊢
      refine (r6bytes_ok _ r HF.out hok).mono ?_
      rintro e w2 ⟨v2, rfl, hown2, hb2⟩
      have HX2 : Hid (RBox w2 w.heap.size r) := HX0.out.below hb2
      have HB2 := Lib.hid (HB0.out.trans (hb2.mono HB0.out.size))
      have HO2 := Lib.hid (hown2.lower HB0.out.size)
      obtain ⟨A2, n2, c2, rfl, N2, hnc2, hcm2⟩ := hown2.byt.form
      clear hown2 hb2
      go_wp2_with fail
      refine wp_region_R (R := fun x y => x = y) (by kernel_rfl) (fun _ => rfl) (fun h k => h.trans k) (by kernel_rfl) (fun d v c a w h => by cases d <;> exact h)
        [(0, false), (1, false), (2, false), (3, false), (4, false), (5, false), (6, true), (7, false), (8, false), (9, false)] rfl (by kernel_rfl) (by kernel_rfl) ?_
      simp only [sel, List.getElem?_toArray, List.getElem?_cons_succ, List.getElem?_cons_zero]
      have HXd : Hid (RBox w2.drew w.heap.size r) := HX2.out
      have HBd : Hid (Below w.heap.size w w2.drew) := HB2.out.drew
      have HOd : Hid (Own w2.drew w.heap.size 5 (.slice A2 n2 c2) (rootB r)) := HO2.out
      have HDd := Lib.hid (H.out.below HBd.out)
      clear HX2 HB2 HO2
      generalize w2.drew = wd at *
      (refine sch_take ?_ rfl ?_ ?_; rotate_left; (focus (intro u hu; go_simp <;> rfl)); simp only [Act.put, List.setIfInBounds_toArray, List.set_cons_zero, List.set_cons_succ])
      (refine sch_take ?_ rfl ?_ ?_; rotate_left; (focus (intro u hu; go_simp <;> rfl)); simp only [Act.put, List.setIfInBounds_toArray, List.set_cons_zero, List.set_cons_succ])
      (refine sch_take ?_ rfl ?_ ?_; rotate_left; (focus (intro u hu; go_simp <;> rfl)); simp only [Act.put, List.setIfInBounds_toArray, List.set_cons_zero, List.set_cons_succ])
      (refine sch_take ?_ rfl ?_ ?_; rotate_left; (focus (intro u hu; go_simp <;> rfl)); simp only [Act.put, List.setIfInBounds_toArray, List.set_cons_zero, List.set_cons_succ])
      (refine sch_take ?_ rfl ?_ ?_; rotate_left; (focus (intro u hu; subst hu; have cc := HXd.out.cells.2.1; go_simp <;> rfl)); simp only [Act.put, List.setIfInBounds_toArray, List.set_cons_zero, List.set_cons_succ])
      (refine sch_take ?_ rfl ?_ ?_; rotate_left; (focus (intro u hu; go_simp <;> rfl)); simp only [Act.put, List.setIfInBounds_toArray, List.set_cons_zero, List.set_cons_succ])
      refine sch_call rfl ?_
      intro K hK
      go_simp
      refine (r5pages_is _ S d s HDd.out).mono ?_
      rintro e w3 ⟨rfl, rfl⟩
      rw [← HP.out]
      go_wp2_with fail
      refine hK _ _ rfl ?_
      clear hK K
      (refine sch_take (.int .u64 (r.p : Int)) rfl ?_ ?_; (focus (intro u hu; clear hu; go_simp <;> rfl)); simp only [Act.put, List.setIfInBounds_toArray, List.set_cons_zero, List.set_cons_succ])
      (refine sch_take (.bool false) rfl ?_ ?_; (focus (intro u hu; clear hu; go_simp <;> rfl)); simp only [Act.put, List.setIfInBounds_toArray, List.set_cons_zero, List.set_cons_succ])
      (refine sch_take ?_ rfl ?_ ?_; rotate_left; (focus (intro u hu; go_simp <;> rfl)); simp only [Act.put, List.setIfInBounds_toArray, List.set_cons_zero, List.set_cons_succ])
      refine sch_nil ?_
      go_wp2_with (with_reducible (show wpList _ _ _ (⟨_, Op.load 39 _, _, _, _, _⟩ :: _) _ _); refine wpList_loadRt rfl _ rfl _ rfl _ HXd.out ?_)
      refine (r6slot_any _ r).mono ?_
      rintro e w4 ⟨rfl, hb4⟩
      have HB4 := Lib.hid (HBd.out.trans (hb4.mono HBd.out.size))
      have HO4 := Lib.hid (Own.keep HOd.out hb4)
      have HD4 := Lib.hid (HDd.out.below hb4)
      clear hb4
      go_wp2_with fail
      have hs := r5save_is _ S d s ((r.e % 2 : Nat) : Int) _ _ HD4.out HO4.out.byt (fun k hk hS => by have := H.out.lt k hS; have := own_ge HO4.out hk; omega) (fun k hk => by obtain ⟨cur, hc⟩ := ownsRow_block (HO4.out.lower (Nat.zero_le _)) hk; exact (Array.getElem?_eq_some_iff.1 hc).1)
      refine hs.mono ?_
      rintro e w5 hdn
      rw [HQ.out] at hdn
      have HDN := Lib.hid (rdone_up H.out.lt HB4.out hdn)
      obtain ⟨rfl, _, _⟩ := hdn
      go_wp2_with fail
      go_ret
      exact HDN.out
    · have hq : writeP s r = (2, s) := by unfold writeP; rw [if_pos hok, if_neg hp]
      rw [hq]
      clear hq
      have hp1 : IntKind.u64.wrap ((secs s / 8 : Nat) : Int) = ((secs s / 8 : Nat) : Int) := by rw [IntKind.wrap_u64]; have := H.out.ok.few; omega
      have hp2 : ((r.p : Int) == ((secs s / 8 : Nat) : Int)) = false := ne_int hp
      clear hp
      go_enter Tryz.func9, Tryz.ntmps9
      go_wp2_with (with_reducible (show wpList _ _ _ (⟨_, Op.load 39 _, _, _, _, _⟩ :: _) _ _); refine wpList_loadRt rfl _ rfl _ rfl _ HX0.out ?_)
      rw [HW0.out] at HX0 ⊢
      refine (r6bytes_ok _ r HF.out hok).mono ?_
      rintro e w2 ⟨v2, rfl, hown2, hb2⟩
      have HX2 : Hid (RBox w2 w.heap.size r) := HX0.out.below hb2
      have HB2 := Lib.hid (HB0.out.trans (hb2.mono HB0.out.size))
      have HO2 := Lib.hid (hown2.lower HB0.out.size)
      obtain ⟨A2, n2, c2, rfl, N2, hnc2, hcm2⟩ := hown2.byt.form
      clear hown2 hb2
      go_wp2_with fail
      refine wp_region_R (R := fun x y => x = y) (by kernel_rfl) (fun _ => rfl) (fun h k => h.trans k) (by kernel_rfl) (fun d v c a w h => by cases d <;> exact h)
        [(0, false), (1, false), (2, false), (3, false), (4, false), (5, false), (6, true), (7, false), (8, false), (9, false)] rfl (by kernel_rfl) (by kernel_rfl) ?_
      simp only [sel, List.getElem?_toArray, List.getElem?_cons_succ, List.getElem?_cons_zero]
      have HXd : Hid (RBox w2.drew w.heap.size r) := HX2.out
      have HBd : Hid (Below w.heap.size w w2.drew) := HB2.out.drew
      have HOd : Hid (Own w2.drew w.heap.size 5 (.slice A2 n2 c2) (rootB r)) := HO2.out
      have HDd := Lib.hid (H.out.below HBd.out)
      clear HX2 HB2 HO2
      generalize w2.drew = wd at *
      (refine sch_take ?_ rfl ?_ ?_; rotate_left; (focus (intro u hu; go_simp <;> rfl)); simp only [Act.put, List.setIfInBounds_toArray, List.set_cons_zero, List.set_cons_succ])
      (refine sch_take ?_ rfl ?_ ?_; rotate_left; (focus (intro u hu; go_simp <;> rfl)); simp only [Act.put, List.setIfInBounds_toArray, List.set_cons_zero, List.set_cons_succ])
      (refine sch_take ?_ rfl ?_ ?_; rotate_left; (focus (intro u hu; go_simp <;> rfl)); simp only [Act.put, List.setIfInBounds_toArray, List.set_cons_zero, List.set_cons_succ])
      (refine sch_take ?_ rfl ?_ ?_; rotate_left; (focus (intro u hu; go_simp <;> rfl)); simp only [Act.put, List.setIfInBounds_toArray, List.set_cons_zero, List.set_cons_succ])
      (refine sch_take ?_ rfl ?_ ?_; rotate_left; (focus (intro u hu; subst hu; have cc := HXd.out.cells.2.1; go_simp <;> rfl)); simp only [Act.put, List.setIfInBounds_toArray, List.set_cons_zero, List.set_cons_succ])
      (refine sch_take ?_ rfl ?_ ?_; rotate_left; (focus (intro u hu; go_simp <;> rfl)); simp only [Act.put, List.setIfInBounds_toArray, List.set_cons_zero, List.set_cons_succ])
      refine sch_call rfl ?_
      intro K hK
      go_simp
      refine (r5pages_is _ S d s HDd.out).mono ?_
      rintro e w3 ⟨rfl, rfl⟩
      generalize secs s / 8 = pg at *
      go_wp2_with fail
      refine hK _ _ rfl ?_
      clear hK K
      (refine sch_take (.int .u64 (pg : Int)) rfl ?_ ?_; (focus (intro u hu; clear hu; go_simp <;> rfl)); simp only [Act.put, List.setIfInBounds_toArray, List.set_cons_zero, List.set_cons_succ])
      (refine sch_take (.bool true) rfl ?_ ?_; (focus (intro u hu; clear hu; go_simp; exact beq_eq_false_iff_ne.1 hp2)); simp only [Act.put, List.setIfInBounds_toArray, List.set_cons_zero, List.set_cons_succ])
      (refine sch_take ?_ rfl ?_ ?_; rotate_left; (focus (intro u hu; go_simp <;> rfl)); simp only [Act.put, List.setIfInBounds_toArray, List.set_cons_zero, List.set_cons_succ])
      refine sch_nil ?_
      go_wp2_with fail
      go_ret
      exact rdone_quiet H.out HBd.out
  · have hq : writeP s r = (2, s) := by unfold writeP; rw [if_neg hok]
    rw [hq]
    clear hq
    go_enter Tryz.func9, Tryz.ntmps9
    go_wp2_with (with_reducible (show wpList _ _ _ (⟨_, Op.load 39 _, _, _, _, _⟩ :: _) _ _); refine wpList_loadRt rfl _ rfl _ rfl _ HX0.out ?_)
    rw [HW0.out] at HX0 ⊢
    refine (r6bytes_bad _ r hok).mono ?_
    rintro e w2 ⟨rfl, hb2⟩
    have HB2 := Lib.hid (HB0.out.trans (hb2.mono HB0.out.size))
    clear hb2
    go_wp2_with fail
    refine wp_region_R (R := fun x y => x = y) (by kernel_rfl) (fun _ => rfl) (fun h k => h.trans k) (by kernel_rfl) (fun d v c a w h => by cases d <;> exact h)
      [(0, false), (1, false), (2, false), (3, false), (4, false), (5, false), (6, true), (7, false), (8, false), (9, false)] rfl (by kernel_rfl) (by kernel_rfl) ?_
    simp only [sel, List.getElem?_toArray, List.getElem?_cons_succ, List.getElem?_cons_zero]
    have HBd : Hid (Below w.heap.size w w2.drew) := HB2.out.drew
    clear HB2
    generalize w2.drew = wd at *
    (refine sch_take ?_ rfl ?_ ?_; rotate_left; (focus (intro u hu; go_simp <;> rfl)); simp only [Act.put, List.setIfInBounds_toArray, List.set_cons_zero, List.set_cons_succ])
    (refine sch_take ?_ rfl ?_ ?_; rotate_left; (focus (intro u hu; go_simp <;> rfl)); simp only [Act.put, List.setIfInBounds_toArray, List.set_cons_zero, List.set_cons_succ])
    (refine sch_take ?_ rfl ?_ ?_; rotate_left; (focus (intro u hu; go_simp <;> rfl)); simp only [Act.put, List.setIfInBounds_toArray, List.set_cons_zero, List.set_cons_succ])
    refine sch_idle rfl ?_
    simp only [Act.put, List.setIfInBounds_toArray, List.set_cons_zero, List.set_cons_succ]
    refine sch_idle rfl ?_
    simp only [Act.put, List.setIfInBounds_toArray, List.set_cons_zero, List.set_cons_succ]
    refine sch_idle rfl ?_
    simp only [Act.put, List.setIfInBounds_toArray, List.set_cons_zero, List.set_cons_succ]
    refine sch_idleC rfl ?_
    simp only [Act.put, List.setIfInBounds_toArray, List.set_cons_zero, List.set_cons_succ]
    refine sch_idle rfl ?_
    simp only [Act.put, List.setIfInBounds_toArray, List.set_cons_zero, List.set_cons_succ]
    refine sch_idle rfl ?_
    simp only [Act.put, List.setIfInBounds_toArray, List.set_cons_zero, List.set_cons_succ]
    (refine sch_take ?_ rfl ?_ ?_; rotate_left; (focus (intro u hu; go_simp <;> rfl)); simp only [Act.put, List.setIfInBounds_toArray, List.set_cons_zero, List.set_cons_succ])
    refine sch_nil ?_
    go_wp2_with fail
    go_ret
    exact rdone_quiet H.out HBd.out
end Go.Proofs.YteeljcnmgfjcmaaGreatDoor

/-
  The document's answer for roots (tallymanref06): Find over its own disk, by its contract. Conditions: none but that the disk lies there.
-/
namespace Go.Proofs.YteeljcnmgfjcmaaGreatDoor
open Go.RowKit Go.Maps
set_option maxRecDepth 100000

def RFindE (w : World) (S : Nat → Prop) (d : Nat) (q : Rt × Nat × St) (e : Ending) (w' : World) : Prop :=
  e = .returned (.tuple #[.agg (rtV q.1), .int .i64 ((q.2.1 : Nat) : Int)]) ∧ Ref w' S d q.2.2 ∧ Trn S w w'
def isQ (b : List UInt8) (k n : Nat) : Bool := decide ((readQ b).2 = 0 ∧ (readQ b).1.e % 2 = k ∧ (readQ b).1.p = n)
theorem isQ_slot (b : List UInt8) (k n : Nat) : (isQ b k n = true ∧ slotR b k n = (readQ b).1 ∧ slotR b k n ≠ zeroR) ∨ (isQ b k n = false ∧ slotR b k n = zeroR) := by
  cases h : readRt b with
  | none =>
    right
    exact ⟨decide_eq_false (fun hh => by rw [readQ_none h] at hh; exact absurd hh.1 (by decide)), slotR_none h⟩
  | some r =>
    by_cases hk : r.e % 2 = k ∧ r.p = n
    · left
      refine ⟨decide_eq_true ?_, ?_, ?_⟩
      · rw [readQ_some h]; exact ⟨rfl, hk⟩
      · rw [readQ_some h, slotR_some h hk]
      · rw [slotR_some h hk]; exact okR_ne (readRt_some h).2.1
    · right
      exact ⟨decide_eq_false (fun hh => by rw [readQ_some h] at hh; exact hk hh.2), slotR_other h hk⟩
theorem choose_isQ (b0 b1 : List UInt8) (n : Nat) : chooseR (readQ b0).1 (readQ b1).1 (isQ b0 0 n) (isQ b1 1 n) = findR b0 b1 n := by
  unfold findR
  rcases isQ_slot b0 0 n with ⟨h1, h2, h3⟩ | ⟨h1, h2⟩ <;> rcases isQ_slot b1 1 n with ⟨g1, g2, g3⟩ | ⟨g1, g2⟩
  · rw [h1, g1, decide_eq_true h3, decide_eq_true g3, h2, g2]
  · rw [h1, g1, decide_eq_true h3, h2, g2]
    simp [chooseR]
  · rw [h1, g1, decide_eq_true g3, h2, g2]
    simp [chooseR]
  · rw [h1, g1, h2, g2]
    simp [chooseR]
theorem chooseR_false {a b : Rt} {x y : Bool} : (chooseR a b x y).2 = false → (chooseR a b x y).1 = zeroR := by
  unfold chooseR
  intro h
  split at h
  · cases h
  · split at h
    · cases h
    · split at h
      · cases h
      · rename_i h1 h2 h3
        rw [if_neg h1, if_neg h2, if_neg h3]
theorem flagZero : ∀ w, (zeroValue 68).run Tryz.prog w = .ok (.agg #[.bool false, .bool false]) w :=
  (zero_of_info (show (Tryz.prog.info? 68).map (fun i => (i.zero, i.size)) = some (some (.agg #[.bool false, .bool false]), 2) by kernel_rfl)).1
def FBox (w : World) (g : Nat) (x y : Bool) : Prop := w.heap[g]? = some (.cells #[.bool x, .bool y] 68 (0, 0))
theorem FBox.cells {w : World} {g : Nat} {x y : Bool} (h : FBox w g x y) : (w.cell? ⟨g, 0, none⟩ = some (.bool x) ∧ w.cell? ⟨g, 1, none⟩ = some (.bool y)) ∧ w.frozen? ⟨g, 0, none⟩ = false ∧ w.frozen? ⟨g, 1, none⟩ = false := by
  refine ⟨⟨?_, ?_⟩, ?_, ?_⟩
  · rw [cell_of_row _ _ _ _ _ _ h]; rfl
  · rw [cell_of_row _ _ _ _ _ _ h]; rfl
  · unfold FBox at h; simp [World.frozen?, h]
  · unfold FBox at h; simp [World.frozen?, h]
theorem FBox.put0 {w : World} {g : Nat} {x y : Bool} (h : FBox w g x y) (b : Bool) : FBox (w.setCell ⟨g, 0, none⟩ (.bool b)) g b y := by
  unfold FBox at h ⊢
  simp [World.setCell, Array.getElem?_modify, h]
theorem FBox.put1 {w : World} {g : Nat} {x y : Bool} (h : FBox w g x y) (b : Bool) : FBox (w.setCell ⟨g, 1, none⟩ (.bool b)) g x b := by
  unfold FBox at h ⊢
  simp [World.setCell, Array.getElem?_modify, h]
theorem RTwo.pages {w : World} {g : Nat} {a b : Rt} (h : RTwo w g a b) : w.cell? ⟨g, 1, none⟩ = some (.int .u64 (a.p : Int)) ∧ w.cell? ⟨g, 10, none⟩ = some (.int .u64 (b.p : Int)) := by
  constructor <;> (rw [cell_of_row _ _ _ _ _ _ h]; rfl)
/-- Find under way. -/
structure F6 (w : World) (S : Nat → Prop) (d : Nat) (s : St) (u : World) (s' : St) (l0 l1 : Rt) (x0 x1 : Bool) : Prop where
  box : RBox u w.heap.size zeroR
  two : RTwo u (w.heap.size + 1) l0 l1
  fl : FBox u (w.heap.size + 1 + 1) x0 x1
  ref : Ref u S d s'
  trn : Trn S w u
  sec : secs s' = secs s
section
variable {w u u' : World} {S : Nat → Prop} {d : Nat} {s s' : St} {l0 l1 : Rt} {x0 x1 : Bool}
theorem FBox.trn {T : Nat → Prop} {g : Nat} (h : FBox u g x0 x1) (ht : Trn T u u') (hk : ¬ T g) : FBox u' g x0 x1 := (ht.block g (Array.getElem?_eq_some_iff.1 h).1 hk).trans h
theorem F6.below (h : F6 w S d s u s' l0 l1 x0 x1) (hb : Below u.heap.size u u') : F6 w S d s u' s' l0 l1 x0 x1 :=
  ⟨h.box.below hb, h.two.below hb, h.fl.trn (T := fun _ => False) (Trn.of_below hb) (fun f => f), h.ref.below hb, h.trn.trans (Trn.of_below hb : Trn (fun _ => False) u u') (fun _ _ f => f.elim), h.sec⟩
theorem F6.load (h : F6 w S d s u s' l0 l1 x0 x1) (hS : ∀ k, S k → k < w.heap.size) {s2 : St} (ht : Trn S u u') (hd : Ref u' S d s2) (hs : secs s2 = secs s') : F6 w S d s u' s2 l0 l1 x0 x1 :=
  ⟨h.box.trn ht (fun x => by have := hS _ x; omega), h.two.trn ht (fun x => by have := hS _ x; omega), h.fl.trn ht (fun x => by have := hS _ x; omega), hd, h.trn.trans ht (fun _ _ x => x), hs.trans h.sec⟩
theorem F6.put {q0 q1 : Rt} (h : F6 w S d s u s' l0 l1 x0 x1) (hS : ∀ k, S k → k < w.heap.size) (ht : Trn (fun k => k = w.heap.size + 1) u u') (h2 : RTwo u' (w.heap.size + 1) q0 q1) : F6 w S d s u' s' q0 q1 x0 x1 :=
  ⟨h.box.trn ht (by omega), h2, h.fl.trn ht (by omega), h.ref.trn ht (fun k hk e => by have := hS _ hk; omega), h.trn.trans ht (fun k hk e => by omega), h.sec⟩
theorem F6.flag {y0 y1 b : Bool} {i : Nat} (h : F6 w S d s u s' l0 l1 x0 x1) (hS : ∀ k, S k → k < w.heap.size) (h2 : FBox (u.setCell ⟨w.heap.size + 1 + 1, i, none⟩ (.bool b)) (w.heap.size + 1 + 1) y0 y1) : F6 w S d s (u.setCell ⟨w.heap.size + 1 + 1, i, none⟩ (.bool b)) s' l0 l1 y0 y1 := by
  have ht : Trn (fun k => k = w.heap.size + 1 + 1) u (u.setCell ⟨w.heap.size + 1 + 1, i, none⟩ (.bool b)) := (Trn.refl _ u).setCell _ (fun _ => rfl)
  exact ⟨h.box.trn ht (by omega), h.two.trn ht (by omega), h2, h.ref.trn ht (fun k hk e => by have := hS _ hk; omega), h.trn.trans ht (fun k hk e => by omega), h.sec⟩
theorem F6.ret (h : F6 w S d s u s' l0 l1 x0 x1) (hS : ∀ k, S k → k < w.heap.size) (ht : Trn (fun k => k = w.heap.size) u u') : Ref u' S d s' ∧ Trn S w u' :=
  ⟨h.ref.trn ht (fun k hk e => by have := hS _ hk; omega), h.trn.trans ht (fun k hk e => by omega)⟩
end
def F6Rest (s s' : St) (l0 l1 : Rt) (x0 x1 : Bool) : Nat → Prop
  | 0 => s' = s
  | 1 => ∃ b0, loadP s 0 = (b0, 0, s') ∧ l0 = (readQ b0).1 ∧ x0 = isQ b0 0 (secs s / 8)
  | _ => ∃ b0 s0 b1, loadP s 0 = (b0, 0, s0) ∧ loadP s0 1 = (b1, 0, s') ∧ l0 = (readQ b0).1 ∧ x0 = isQ b0 0 (secs s / 8) ∧ l1 = (readQ b1).1 ∧ x1 = isQ b1 1 (secs s / 8)
def F6Rel (w : World) (S : Nat → Prop) (d : Nat) (s : St) (i : Value) (u : World) : Prop :=
  ∃ s' l0 l1 x0 x1, (i = .int .i64 0 ∧ F6 w S d s u s' l0 l1 x0 x1 ∧ F6Rest s s' l0 l1 x0 x1 0) ∨ (i = .int .i64 1 ∧ F6 w S d s u s' l0 l1 x0 x1 ∧ F6Rest s s' l0 l1 x0 x1 1) ∨ (i = .int .i64 2 ∧ F6 w S d s u s' l0 l1 x0 x1 ∧ F6Rest s s' l0 l1 x0 x1 2)
set_option maxRecDepth 100000 in
set_option maxHeartbeats 4000000 in
theorem r6find_arg (w : World) (S : Nat → Prop) (d : Nat) (s : St) (h : Ref w S d s) (hp : ¬ (8 ≤ secs s / 8 ∧ secs s / 8 ≤ 4096)) :
    Calls Tryz.prog 11 #[.pointer (some ⟨d, 0, none⟩)] w (RFindE w S d (zeroR, 2, s)) := by
  have Z := rtZero
  have HX := Lib.hid (RBox.new w zeroR)
  have hb := below_new w (.cells (rtV zeroR) 39)
  have HB := Lib.hid hb
  have H := Lib.hid h
  have HP := Lib.hid (r5pages_is _ S d s (h.below hb))
  clear h hb
  generalize secs s / 8 = pg at *
  by_cases h8 : (pg : Int) < 8
  all_goals
    have h9 : ¬ (pg : Int) < 8 → (4096 : Int) < (pg : Int) := by omega
    go_enter Tryz.func11, Tryz.ntmps11
    go_wp2_with fail
    refine HP.out.mono ?_
    rintro e w2 ⟨rfl, rfl⟩
    try have h10 := h9 h8
    clear h9
    go_wp2_with (with_reducible (show wpList _ _ _ (⟨_, Op.store 39 _ _, _, _, _, _⟩ :: _) _ _); refine wpList_storeRt rfl _ _ rfl _ rfl zeroR rfl _ HX.out ?_; intro w9 h2 h3 h4 h5)
    refine ret_rt2 _ rfl rfl rfl _ rfl h2 ?_
    exact ⟨rfl, (H.out.below HB.out).trn h4 (fun k hk e => by have := H.out.lt _ hk; omega), (Trn.of_below HB.out : Trn S w _).trans h4 (fun k hk e => by omega)⟩
set_option maxRecDepth 100000 in
set_option maxHeartbeats 8000000 in
theorem r6find_loop (w : World) (S : Nat → Prop) (d : Nat) (s : St) (h : Ref w S d s) (hp : 8 ≤ secs s / 8 ∧ secs s / 8 ≤ 4096) :
    Calls Tryz.prog 11 #[.pointer (some ⟨d, 0, none⟩)] w (RFindE w S d (findP s)) := by
  have Z := rtZero
  have Z2 := twoZero
  have Z3 := flagZero
  obtain ⟨w0, hw0⟩ : ∃ w0, w.alloc (.cells (rtV zeroR) 39) = w0 := ⟨_, rfl⟩
  obtain ⟨w1, hw1⟩ : ∃ w1, w0.alloc (.cells (rtV zeroR ++ rtV zeroR) 63) = w1 := ⟨_, rfl⟩
  obtain ⟨w2, hw2⟩ : ∃ w2, w1.alloc (.cells #[.bool false, .bool false] 68) = w2 := ⟨_, rfl⟩
  have hb0 : Below w.heap.size w w0 := hw0 ▸ below_new w _
  have hb1 : Below w0.heap.size w0 w1 := hw1 ▸ below_new w0 _
  have hb2 : Below w1.heap.size w1 w2 := hw2 ▸ below_new w1 _
  have hb02 : Below w.heap.size w w2 := hb0.trans ((hb1.trans (hb2.mono hb1.size)).mono hb0.size)
  have hs0 : w0.heap.size = w.heap.size + 1 := by rw [← hw0]; simp
  have hs1 : w1.heap.size = w.heap.size + 1 + 1 := by rw [← hw1]; simp; omega
  have hx0 : RBox w0 w.heap.size zeroR := hw0 ▸ RBox.new w zeroR
  have ht1 : RTwo w1 (w.heap.size + 1) zeroR zeroR := by
    have := (hw1 ▸ RTwo.new w0 zeroR zeroR : RTwo w1 _ _ _)
    rwa [hs0] at this
  have hf2 : FBox w2 (w.heap.size + 1 + 1) false false := by
    have : FBox w2 w1.heap.size false false := hw2 ▸ heap_alloc_new w1 _
    rwa [hs1] at this
  have HST : Hid (F6 w S d s w2 s zeroR zeroR false false) := ⟨(hx0.below hb1).below hb2, ht1.below hb2, hf2, h.below hb02, Trn.of_below hb02, rfl⟩
  have HW0 := Lib.hid hw0
  have HW1 := Lib.hid hw1
  have HW2 := Lib.hid hw2
  have HS0 := Lib.hid hs0
  have HS1 := Lib.hid hs1
  have HPG := Lib.hid (r5pages_is w0 S d s (h.below hb0))
  have HLT := Lib.hid h.lt
  have HP := Lib.hid hp
  have HOK := Lib.hid h.ok
  have hp8 : ¬ ((secs s / 8 : Nat) : Int) < 8 := by omega
  have hp9 : ¬ (4096 : Int) < ((secs s / 8 : Nat) : Int) := by omega
  obtain ⟨pg, hpg⟩ : ∃ pg, secs s / 8 = pg := ⟨_, rfl⟩
  have hp1 : IntKind.u64.wrap (pg : Int) = (pg : Int) := by rw [IntKind.wrap_u64]; omega
  rw [hpg] at hp8 hp9 HPG
  have HPE := Lib.hid hpg
  clear hw0 hw1 hw2 hb0 hb1 hb2 hb02 hs0 hs1 hx0 ht1 hf2 h hp hpg
  generalize hQ : findP s = fq
  have HQ := Lib.hid hQ
  clear hQ
  go_enter Tryz.func11, Tryz.ntmps11
  go_wp2_with fail
  rw [HW0.out]
  refine HPG.out.mono ?_
  rintro e w3 ⟨rfl, rfl⟩
  go_wp2_with fail
  rw [HW1.out, HW2.out, HS0.out]
  clear HW0 HW1 HW2 HS0 HS1 HPG
  go_loopw [7] (fun i wr => F6Rel w S d s i wr) (fun i _ => 2 - (intOf i).toNat)
  case atStart => exact ⟨_, _, _, _, _, .inl ⟨rfl, HST.out, rfl⟩⟩
  case round =>
    obtain ⟨s', l0, l1, x0, x1, ⟨rfl, hst, hrs⟩ | ⟨rfl, hst, hrs⟩ | ⟨rfl, hst, hrs⟩⟩ := hrel
    · have HS := Lib.hid hst
      have HR := Lib.hid hrs
      have HL := Lib.hid (r5load_is wr S d s' 0 hst.ref)
      have HSE := Lib.hid (loadP_secs (x := 0) hst.ref.ok)
      clear hst hrs HST
      generalize hlp : loadP s' 0 = lp at *
      have HLP := Lib.hid hlp
      clear hlp
      go_wp2_with fail
      refine HL.out.mono ?_
      rintro e w3 ⟨v3, rfl, hown3, hdk3, ht3⟩
      have HM3 := Lib.hid (HS.out.load HLT.out ht3 hdk3 HSE.out)
      have HV3 := Lib.hid hown3.byt
      obtain ⟨A3, n3, c3, rfl, N3, hnc3, hcm3⟩ := hown3.byt.form
      clear hown3 hdk3 ht3 HL
      by_cases her : lp.2.1 = 0
      · have HLE : Hid (loadP s' 0 = (lp.1, 0, lp.2.2)) := by rw [Hid, HLP.out, ← her]
        rw [her]
        clear her
        go_wp2_with fail
        refine (r6read_any _ _ _ HV3.out).mono ?_
        rintro e w4 ⟨rfl, hb4⟩
        have HM4 := Lib.hid (HM3.out.below hb4)
        have HI : Hid (isQ lp.1 0 pg = decide ((readQ lp.1).2 = 0 ∧ (readQ lp.1).1.e % 2 = 0 ∧ (readQ lp.1).1.p = pg)) := rfl
        obtain ⟨q, hq⟩ : ∃ q, (readQ lp.1).1 = q := ⟨_, rfl⟩
        obtain ⟨kq, hkq⟩ : ∃ kq, (readQ lp.1).2 = kq := ⟨_, rfl⟩
        rw [hq, hkq] at HI ⊢
        have HQ1 := Lib.hid hq
        clear hb4 hq hkq HM3 HV3
        by_cases hk : kq = 0
        · subst hk
          go_wp2_with (first | (with_reducible (show wpList _ _ _ (⟨_, Op.store 39 _ _, _, _, _, _⟩ :: _) _ _); refine wpList_storeTwo0 rfl _ _ rfl _ rfl q rfl _ _ HM4.out.two ?_; intro w5 h51 h52 h53; have HM5 := Lib.hid (HM4.out.put HLT.out h52 h51); clear h51 h52 h53; obtain ⟨⟨b0, b1⟩, b2, b3⟩ := HM5.out.fl.cells) | (with_reducible (show wpList _ _ _ (⟨_, Op.load 39 _, _, _, _, _⟩ :: _) _ _); refine wpList_exec rfl _ (exec_loadTwo0 _ rfl _ rfl HM5.out.two) ?_))
          clear b0 b1 b2 b3
          refine (r6slot_any _ q).mono ?_
          rintro e w6 ⟨rfl, hb6⟩
          have HM6 := Lib.hid (HM5.out.below hb6)
          clear hb6
          obtain ⟨⟨b0, b1⟩, b2, b3⟩ := HM6.out.fl.cells
          obtain ⟨p0, p1⟩ := HM6.out.two.pages
          by_cases hs : q.e % 2 = 0
          · rw [hs]
            by_cases hp : q.p = pg
            · have HC : Hid (0 = 0 ∧ q.e % 2 = 0 ∧ q.p = pg) := ⟨rfl, hs, hp⟩
              have hpp : ((q.p : Int) == (pg : Int)) = true := by rw [hp]; simp
              clear hs hp
              go_wp2_with fail
              have HZ := Lib.hid (HM6.out.flag HLT.out (b := true) (i := 0) (HM6.out.fl.put0 true))
              go_roundw
              case rel => exact ⟨_, _, _, _, _, .inr (.inl ⟨rfl, HZ.out, lp.1, HR.out ▸ HLE.out, HQ1.out.symm, by rw [HPE.out, HI.out]; exact (decide_eq_true HC.out).symm⟩)⟩
              case measure => simp [intOf]
            · have HC : Hid (¬ (0 = 0 ∧ q.e % 2 = 0 ∧ q.p = pg)) := fun x => hp x.2.2
              have hpp : ((q.p : Int) == (pg : Int)) = false := ne_int hp
              clear hs hp
              go_wp2_with fail
              have HZ := Lib.hid (HM6.out.flag HLT.out (b := false) (i := 0) (HM6.out.fl.put0 false))
              go_roundw
              case rel => exact ⟨_, _, _, _, _, .inr (.inl ⟨rfl, HZ.out, lp.1, HR.out ▸ HLE.out, HQ1.out.symm, by rw [HPE.out, HI.out]; exact (decide_eq_false HC.out).symm⟩)⟩
              case measure => simp [intOf]
          · have HC : Hid (¬ (0 = 0 ∧ q.e % 2 = 0 ∧ q.p = pg)) := fun x => hs x.2.1
            have hss : (((q.e % 2 : Nat) : Int) == 0) = false := by rw [beq_eq_false_iff_ne]; omega
            generalize q.e % 2 = qs at *
            clear hs
            go_wp2_with fail
            have HZ := Lib.hid (HM6.out.flag HLT.out (b := false) (i := 0) (HM6.out.fl.put0 false))
            go_roundw
            case rel => exact ⟨_, _, _, _, _, .inr (.inl ⟨rfl, HZ.out, lp.1, HR.out ▸ HLE.out, HQ1.out.symm, by rw [HPE.out, HI.out]; exact (decide_eq_false HC.out).symm⟩)⟩
            case measure => simp [intOf]
        · have HC : Hid (¬ (kq = 0 ∧ q.e % 2 = 0 ∧ q.p = pg)) := fun x => hk x.1
          have hk1 : ((kq : Int) == 0) = false := by rw [beq_eq_false_iff_ne]; omega
          clear hk
          go_wp2_with (with_reducible (show wpList _ _ _ (⟨_, Op.store 39 _ _, _, _, _, _⟩ :: _) _ _); refine wpList_storeTwo0 rfl _ _ rfl _ rfl q rfl _ _ HM4.out.two ?_; intro w5 h51 h52 h53; have HM5 := Lib.hid (HM4.out.put HLT.out h52 h51); clear h51 h52 h53; obtain ⟨⟨b0, b1⟩, b2, b3⟩ := HM5.out.fl.cells)
          have HZ := Lib.hid (HM5.out.flag HLT.out (b := false) (i := 0) (HM5.out.fl.put0 false))
          go_roundw
          case rel => exact ⟨_, _, _, _, _, .inr (.inl ⟨rfl, HZ.out, lp.1, HR.out ▸ HLE.out, HQ1.out.symm, by rw [HPE.out, HI.out]; exact (decide_eq_false HC.out).symm⟩)⟩
          case measure => simp [intOf]
      · have e9 : loadP s 0 = lp := by
          have e8 : s' = s := HR.out
          rw [← e8]
          exact HLP.out
        have hf := findP_err0 HP.out (by rw [e9]; exact her)
        rw [e9] at hf
        have HFP : Hid (findP s = (zeroR, lp.2.1, lp.2.2)) := hf
        have hne : ((lp.2.1 : Int) == 0) = false := by rw [beq_eq_false_iff_ne]; omega
        clear hf her
        generalize lp.2.1 = en at *
        go_wp2_with (with_reducible (show wpList _ _ _ (⟨_, Op.store 39 _ _, _, _, _, _⟩ :: _) _ _); refine wpList_storeRt rfl _ _ rfl _ rfl zeroR rfl _ HM3.out.box ?_; intro w9 h2 h3 h4 h5)
        refine ret_rt2 _ rfl rfl rfl _ rfl h2 ?_
        rw [← HQ.out, HFP.out]
        exact ⟨rfl, HM3.out.ret HLT.out h4⟩
    · have HS := Lib.hid hst
      have HR := Lib.hid hrs
      have HL := Lib.hid (r5load_is wr S d s' 1 hst.ref)
      have HSE := Lib.hid (loadP_secs (x := 1) hst.ref.ok)
      clear hst hrs HST
      generalize hlp : loadP s' 1 = lp at *
      have HLP := Lib.hid hlp
      clear hlp
      go_wp2_with fail
      refine HL.out.mono ?_
      rintro e w3 ⟨v3, rfl, hown3, hdk3, ht3⟩
      have HM3 := Lib.hid (HS.out.load HLT.out ht3 hdk3 HSE.out)
      have HV3 := Lib.hid hown3.byt
      obtain ⟨A3, n3, c3, rfl, N3, hnc3, hcm3⟩ := hown3.byt.form
      clear hown3 hdk3 ht3 HL
      by_cases her : lp.2.1 = 0
      · have HLE : Hid (loadP s' 1 = (lp.1, 0, lp.2.2)) := by rw [Hid, HLP.out, ← her]
        rw [her]
        clear her
        go_wp2_with fail
        refine (r6read_any _ _ _ HV3.out).mono ?_
        rintro e w4 ⟨rfl, hb4⟩
        have HM4 := Lib.hid (HM3.out.below hb4)
        have HI : Hid (isQ lp.1 1 pg = decide ((readQ lp.1).2 = 0 ∧ (readQ lp.1).1.e % 2 = 1 ∧ (readQ lp.1).1.p = pg)) := rfl
        obtain ⟨q, hq⟩ : ∃ q, (readQ lp.1).1 = q := ⟨_, rfl⟩
        obtain ⟨kq, hkq⟩ : ∃ kq, (readQ lp.1).2 = kq := ⟨_, rfl⟩
        rw [hq, hkq] at HI ⊢
        have HQ1 := Lib.hid hq
        clear hb4 hq hkq HM3 HV3
        by_cases hk : kq = 0
        · subst hk
          go_wp2_with (first | (with_reducible (show wpList _ _ _ (⟨_, Op.store 39 _ _, _, _, _, _⟩ :: _) _ _); refine wpList_storeTwo1 rfl _ _ rfl _ rfl q rfl _ _ HM4.out.two ?_; intro w5 h51 h52 h53; have HM5 := Lib.hid (HM4.out.put HLT.out h52 h51); clear h51 h52 h53; obtain ⟨⟨b0, b1⟩, b2, b3⟩ := HM5.out.fl.cells) | (with_reducible (show wpList _ _ _ (⟨_, Op.load 39 _, _, _, _, _⟩ :: _) _ _); refine wpList_exec rfl _ (exec_loadTwo1 _ rfl _ rfl HM5.out.two) ?_))
          clear b0 b1 b2 b3
          refine (r6slot_any _ q).mono ?_
          rintro e w6 ⟨rfl, hb6⟩
          have HM6 := Lib.hid (HM5.out.below hb6)
          clear hb6
          obtain ⟨⟨b0, b1⟩, b2, b3⟩ := HM6.out.fl.cells
          obtain ⟨p0, p1⟩ := HM6.out.two.pages
          by_cases hs : q.e % 2 = 1
          · rw [hs]
            by_cases hp : q.p = pg
            · have HC : Hid (0 = 0 ∧ q.e % 2 = 1 ∧ q.p = pg) := ⟨rfl, hs, hp⟩
              have hpp : ((q.p : Int) == (pg : Int)) = true := by rw [hp]; simp
              clear hs hp
              go_wp2_with fail
              have HZ := Lib.hid (HM6.out.flag HLT.out (b := true) (i := 1) (HM6.out.fl.put1 true))
              go_roundw
              case rel => exact ⟨_, _, _, _, _, .inr (.inr ⟨rfl, HZ.out, _, _, lp.1, HR.out.choose_spec.1, HLE.out, HR.out.choose_spec.2.1, HR.out.choose_spec.2.2, HQ1.out.symm, by rw [HPE.out, HI.out]; exact (decide_eq_true HC.out).symm⟩)⟩
              case measure => simp [intOf]
            · have HC : Hid (¬ (0 = 0 ∧ q.e % 2 = 1 ∧ q.p = pg)) := fun x => hp x.2.2
              have hpp : ((q.p : Int) == (pg : Int)) = false := ne_int hp
              clear hs hp
              go_wp2_with fail
              have HZ := Lib.hid (HM6.out.flag HLT.out (b := false) (i := 1) (HM6.out.fl.put1 false))
              go_roundw
              case rel => exact ⟨_, _, _, _, _, .inr (.inr ⟨rfl, HZ.out, _, _, lp.1, HR.out.choose_spec.1, HLE.out, HR.out.choose_spec.2.1, HR.out.choose_spec.2.2, HQ1.out.symm, by rw [HPE.out, HI.out]; exact (decide_eq_false HC.out).symm⟩)⟩
              case measure => simp [intOf]
          · have HC : Hid (¬ (0 = 0 ∧ q.e % 2 = 1 ∧ q.p = pg)) := fun x => hs x.2.1
            have hss : (((q.e % 2 : Nat) : Int) == 1) = false := by rw [beq_eq_false_iff_ne]; omega
            generalize q.e % 2 = qs at *
            clear hs
            go_wp2_with fail
            have HZ := Lib.hid (HM6.out.flag HLT.out (b := false) (i := 1) (HM6.out.fl.put1 false))
            go_roundw
            case rel => exact ⟨_, _, _, _, _, .inr (.inr ⟨rfl, HZ.out, _, _, lp.1, HR.out.choose_spec.1, HLE.out, HR.out.choose_spec.2.1, HR.out.choose_spec.2.2, HQ1.out.symm, by rw [HPE.out, HI.out]; exact (decide_eq_false HC.out).symm⟩)⟩
            case measure => simp [intOf]
        · have HC : Hid (¬ (kq = 0 ∧ q.e % 2 = 1 ∧ q.p = pg)) := fun x => hk x.1
          have hk1 : ((kq : Int) == 0) = false := by rw [beq_eq_false_iff_ne]; omega
          clear hk
          go_wp2_with (with_reducible (show wpList _ _ _ (⟨_, Op.store 39 _ _, _, _, _, _⟩ :: _) _ _); refine wpList_storeTwo1 rfl _ _ rfl _ rfl q rfl _ _ HM4.out.two ?_; intro w5 h51 h52 h53; have HM5 := Lib.hid (HM4.out.put HLT.out h52 h51); clear h51 h52 h53; obtain ⟨⟨b0, b1⟩, b2, b3⟩ := HM5.out.fl.cells)
          have HZ := Lib.hid (HM5.out.flag HLT.out (b := false) (i := 1) (HM5.out.fl.put1 false))
          go_roundw
          case rel => exact ⟨_, _, _, _, _, .inr (.inr ⟨rfl, HZ.out, _, _, lp.1, HR.out.choose_spec.1, HLE.out, HR.out.choose_spec.2.1, HR.out.choose_spec.2.2, HQ1.out.symm, by rw [HPE.out, HI.out]; exact (decide_eq_false HC.out).symm⟩)⟩
          case measure => simp [intOf]
      · have hf := findP_err1 HP.out HR.out.choose_spec.1 (by rw [HLP.out]; exact her)
        rw [HLP.out] at hf
        have HFP : Hid (findP s = (zeroR, lp.2.1, lp.2.2)) := hf
        have hne : ((lp.2.1 : Int) == 0) = false := by rw [beq_eq_false_iff_ne]; omega
        clear hf her
        generalize lp.2.1 = en at *
        go_wp2_with (with_reducible (show wpList _ _ _ (⟨_, Op.store 39 _ _, _, _, _, _⟩ :: _) _ _); refine wpList_storeRt rfl _ _ rfl _ rfl zeroR rfl _ HM3.out.box ?_; intro w9 h2 h3 h4 h5)
        refine ret_rt2 _ rfl rfl rfl _ rfl h2 ?_
        rw [← HQ.out, HFP.out]
        exact ⟨rfl, HM3.out.ret HLT.out h4⟩
    · have HS := Lib.hid hst
      obtain ⟨b0, s0, b1, e0, e1, rfl, rfl, rfl, rfl⟩ := hrs
      have hf := findP_end HP.out e0 e1
      rw [HPE.out] at hf
      have hc := choose_isQ b0 b1 pg
      have CC := fun W => r6choose_any W (readQ b0).1 (readQ b1).1 (isQ b0 0 pg) (isQ b1 1 pg)
      rw [hc] at CC
      have HCC := Lib.hid CC
      have HFP := Lib.hid hf
      rw [HPE.out] at HS
      clear CC hc hf e0 e1 hst HST
      generalize (readQ b0).1 = l0 at *
      generalize (readQ b1).1 = l1 at *
      generalize isQ b0 0 pg = x0 at *
      generalize isQ b1 1 pg = x1 at *
      have HZP : Hid ((findR b0 b1 pg).2 = false → (findR b0 b1 pg).1 = zeroR) := by unfold findR; exact chooseR_false
      generalize findR b0 b1 pg = fr at *
      obtain ⟨pr, pb⟩ := fr
      obtain ⟨⟨c0, c1⟩, _, _⟩ := HS.out.fl.cells
      go_wp2_with (first | (with_reducible (show wpList _ _ _ (⟨_, Op.load 39 _, _, _, _, _⟩ :: _) _ _); refine wpList_exec rfl _ (exec_loadTwo0 _ rfl _ rfl HS.out.two) ?_) | (with_reducible (show wpList _ _ _ (⟨_, Op.load 39 _, _, _, _, _⟩ :: _) _ _); refine wpList_exec rfl _ (exec_loadTwo1 _ rfl _ rfl HS.out.two) ?_))
      clear c0 c1
      refine (HCC.out _).mono ?_
      rintro e w4 ⟨rfl, hb4⟩
      have HM4 := Lib.hid (HS.out.below hb4)
      clear hb4
      cases pb
      · obtain rfl : pr = zeroR := HZP.out rfl
        go_wp2_with (with_reducible (show wpList _ _ _ (⟨_, Op.store 39 _ _, _, _, _, _⟩ :: _) _ _); first | (refine wpList_storeNewRt zeroR zeroR rfl _ _ rfl rfl rfl ?_; intro w5 hx5 hb5 hl5) | (refine wpList_storeRt rfl _ _ rfl _ rfl zeroR rfl _ (HM4.out.below hb5).box ?_; intro w9 h2 h3 h4 h5))
        refine ret_rt2 _ rfl rfl rfl _ rfl h2 ?_
        rw [← HQ.out, HFP.out]
        exact ⟨rfl, (HM4.out.below hb5).ret HLT.out h4⟩
      · go_wp2_with (first | (with_reducible (show wpList _ _ _ (⟨_, Op.store 39 _ _, _, _, _, _⟩ :: _) _ _); first | (refine wpList_storeNewRt zeroR pr rfl _ _ rfl rfl rfl ?_; intro w5 hx5 hb5 hl5) | (refine wpList_storeRt rfl _ _ rfl _ rfl pr rfl _ (HM4.out.below hb5).box ?_; intro w9 h2 h3 h4 h5)) | (with_reducible (show wpList _ _ _ (⟨_, Op.load 39 _, _, _, _, _⟩ :: _) _ _); refine wpList_exec rfl _ (exec_loadRt _ rfl _ rfl hx5) ?_))
        refine ret_rt2 _ rfl rfl rfl _ rfl h2 ?_
        rw [← HQ.out, HFP.out]
        exact ⟨rfl, (HM4.out.below hb5).ret HLT.out h4⟩
theorem r6find_is (w : World) (S : Nat → Prop) (d : Nat) (s : St) (h : Ref w S d s) : Calls Tryz.prog 11 #[.pointer (some ⟨d, 0, none⟩)] w (RFindE w S d (findP s)) := by
  by_cases hp : 8 ≤ secs s / 8 ∧ secs s / 8 ≤ 4096
  · exact r6find_loop w S d s h hp
  · have hq : findP s = (zeroR, 2, s) := by unfold findP; rw [if_neg hp]
    rw [hq]
    exact r6find_arg w S d s h hp
end Go.Proofs.YteeljcnmgfjcmaaGreatDoor

/-
  A list of roots that came in. Conditions: none.
-/
namespace Go.Proofs.YteeljcnmgfjcmaaGreatDoor
open Go.ChangeShapes Go.WideShapes Go.ChangeAt Go.RowKit Go.Deep Go.Maps
set_option maxRecDepth 100000

instance : Inhabited Rt := ⟨zeroR⟩
/-- The slice value v has n roots. -/
def Roots (w : World) (v : Value) (n : Nat) (f : Nat → Rt) : Prop :=
  ∃ (A : Option Addr) (c : Nat), v = .slice A n c ∧ n ≤ c ∧ c ≤ 9223372036854775807 ∧
    (n = 0 ∨ ∃ b off, A = some ⟨b, off, none⟩ ∧ b < w.heap.size ∧ ∀ j, j < n → (∀ i x, (rtV (f j)).toList[i]? = some x → w.cell? ⟨b, off + j * 9 + i, none⟩ = some x) ∧ (f j).Wf)
theorem Roots.below {w w' : World} {v : Value} {n : Nat} {f : Nat → Rt} (h : Roots w v n f) (hb : Below w.heap.size w w') : Roots w' v n f := by
  obtain ⟨A, c, rfl, h1, h2, h3⟩ := h
  refine ⟨A, c, rfl, h1, h2, ?_⟩
  rcases h3 with h3 | ⟨b, off, rfl, hlt, hc⟩
  · exact .inl h3
  · exact .inr ⟨b, off, rfl, Nat.lt_of_lt_of_le hlt hb.size, fun j hj => ⟨fun i x hx => by rw [← (hc j hj).1 i x hx]; exact hb.cell (p := ⟨b, off + j * 9 + i, none⟩) hlt, (hc j hj).2⟩⟩
theorem Roots.form {w : World} {v : Value} {n : Nat} {f : Nat → Rt} (h : Roots w v n f) : ∃ A c, v = .slice A n c ∧ n ≤ c ∧ c ≤ 9223372036854775807 := by
  obtain ⟨A, c, rfl, h1, h2, _⟩ := h
  exact ⟨A, c, rfl, h1, h2⟩
theorem Roots.at {w : World} {A : Option Addr} {m c n k : Nat} {f : Nat → Rt} (h : Roots w (.slice A m c) n f) (hk : k < n) :
    ∃ b off, A = some ⟨b, off, none⟩ ∧ b < w.heap.size ∧ (∀ i x, (rtV (f k)).toList[i]? = some x → w.cell? ⟨b, off + k * 9 + i, none⟩ = some x) ∧ (f k).Wf := by
  obtain ⟨A', c', hv, h1, h2, h3⟩ := h
  injection hv with e1 e2 e3
  subst e1
  rcases h3 with h3 | ⟨b, off, rfl, hb, hc⟩
  · omega
  · exact ⟨b, off, rfl, hb, hc k hk⟩
theorem load_list {w : World} {b o : Nat} {r : Rt} (hc : ∀ i x, (rtV r).toList[i]? = some x → w.cell? ⟨b, o + i, none⟩ = some x) :
    (loadVar 39 ⟨b, o, none⟩).run Tryz.prog w = .ok (.agg (rtV r)) w := by
  have hl : (loadCells ⟨b, o, none⟩ 9).run Tryz.prog w = .ok (rtV r) w := by
    have := run_loadCells_list (P := Tryz.prog) w ⟨b, o, none⟩ (rtV r).toList (fun j v hv => by
      rw [plainAdd]
      exact hc j v hv)
    simpa [rtV_size] using this
  have hs := rtSize
  cases hq : Tryz.prog.info? 39 with
  | none => rw [hq] at hs; cases hs
  | some i =>
    rw [hq] at hs
    have hsz : i.size = 9 := by simpa using hs
    have hagg : (isAgg 39).run Tryz.prog w = .ok true w := by
      simp [isAgg, run_underlying rtU]
    simp [loadVar, hagg, sizeOf, typeInfo, hq, hsz, hl]
theorem exec_loadL {o : Oper} {a : Act} {u : World} (x : Operand) (ho : o.op = .load 39 x) (b off : Nat) (hx : a.eval x = .pointer (some ⟨b, off, none⟩)) {r : Rt} (h : ∀ i x, (rtV r).toList[i]? = some x → u.cell? ⟨b, off + i, none⟩ = some x) :
    (execOp a.eval o).run Tryz.prog u = .ok (.value (.agg (rtV r))) u := by
  unfold execOp
  simp only [ho, hx, Instr.loadAt, Instr.sureAddr, Sem.run_bind, Sem.run_pure, Result.andThen_ok, load_list h]
section
variable {H : Type} {enc : TypeId × Value → H} {W : World}
theorem open_roots {base : Nat} {v : Value} {d : DataW H} {p : List MemPlace}
    (hv : Value.okWide Tryz.prog W .any base 22 v) (h : DataW.Trod enc Tryz.prog W 0 (fun _ => true) true 22 v d p) : ∃ n f, Roots W v n f := by
  obtain ⟨a, len, cap, rfl⟩ := okWide_slice Tryz.underlying22 hv
  obtain ⟨fuel, hf⟩ := h
  rcases open_slice Tryz.underlying22 hf with ⟨hcs, _⟩ | ⟨ad, l, c, m, k, D, Pl, hcs, _, hl, hm, hmm, _, hat⟩
  · simp [Value.cells] at hcs
    obtain ⟨rfl, rfl, rfl⟩ := hcs
    exact ⟨0, fun _ => zeroR, none, 0, rfl, by omega, by omega, .inl rfl⟩
  · simp [Value.cells] at hcs
    obtain ⟨rfl, rfl, rfl⟩ := hcs
    have hmc : m = cap := by simpa using hmm
    subst hmc
    rw [cellRoot] at hat
    obtain ⟨f, hf⟩ := choose_lt (α := Rt) (n := len) (p := fun j a => (∀ i x, (rtV a).toList[i]? = some x → W.cell? ((ad.add (j * 9)).add i) = some x) ∧ a.Wf) (fun j hj => by
      obtain ⟨cs', hc, htr⟩ := hat j (by omega)
      obtain ⟨_, hcl, hcell⟩ := World.cells?_some hc
      obtain ⟨a, rfl, ha⟩ := open_rootF htr
      refine ⟨a, fun i x hx => ?_, ha⟩
      have hi : i < 9 := by
        have := (List.getElem?_eq_some_iff.1 hx).1
        rw [hcl] at this
        exact this
      rw [hcell i hi, hx])
    unfold maxLen at hm
    refine ⟨len, f, some ad, m, rfl, hl, by omega, ?_⟩
    by_cases hz : len = 0
    · exact .inl hz
    · have hsp : ad.spot = none := by
        have := World.cell?_spot ((hf 0 (by omega)).1 0 _ rfl)
        simpa [Addr.add] using this
      obtain ⟨b, off, spot⟩ := ad
      simp only at hsp
      subst hsp
      refine .inr ⟨b, off, rfl, ?_, fun j hj => ⟨fun i x hx => ?_, (hf j hj).2⟩⟩
      · have hx := (hf 0 (by omega)).1 0 _ rfl
        rcases Nat.lt_or_ge b W.heap.size with h' | h'
        · exact h'
        · rw [plainAdd, plainAdd] at hx
          simp [World.cell?, Array.getElem?_eq_none h'] at hx
      · have := (hf j hj).1 i x hx
        rw [plainAdd, plainAdd] at this
        exact this
end
end Go.Proofs.YteeljcnmgfjcmaaGreatDoor

