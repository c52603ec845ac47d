/-
  Package page over sectors: Pages, missing, through by their contracts. Conditions: none but that the disk lies there.
-/
import Derived.Test.YtmfcckmcbmlhmaaZer
import Derived.Test.YtmfcckmcbmlhmaaSecL
import Derived.Defers
namespace Go.Proofs.Ytmfcckmcbmlhmaa
open Go.RowKit Go.Maps
set_option maxRecDepth 100000

theorem pages_is (w : World) (S : Nat → Prop) (g : Nat) (s : St) (h : Dsk w S g s) :
    Calls Try.prog 26 #[.pointer (some ⟨g, 0, none⟩)] w fun e w' => e = .returned (.int .i64 ((secs s / 8 : Nat) : Int)) ∧ w = w' := by
  have H := Lib.hid (sectors_any w S g s h)
  have hfew : secs s ≤ 32768 := by obtain ⟨_, _, _, _, _, _, _, _, ok⟩ := h; exact ok.few
  clear h
  generalize secs s = k at *
  have hw : IntKind.i64.wrap ((k : Int) / 8) = ((k / 8 : Nat) : Int) := by rw [IntKind.wrap_i64]; omega
  go_enter Try.func26, Try.ntmps26
  go_wp2_with fail
  refine H.out.mono ?_
  rintro e w1 ⟨rfl, rfl⟩
  go_wp2_with fail
  go_ret
  exact ⟨ret_int (by first | omega | rw [hw]), rfl⟩
theorem pages_nil (w : World) :
    Calls Try.prog 26 #[.pointer none] w fun e w' => e = .returned (.int .i64 0) ∧ w = w' := by
  go_enter Try.func26, Try.ntmps26
  go_wp2_with fail
  refine (sectors_nil _).mono ?_
  rintro e w1 ⟨rfl, rfl⟩
  go_wp2_with fail
  go_ret
  exact ⟨rfl, rfl⟩
theorem missing_nil (w : World) (x : Int) :
    Calls Try.prog 45 #[.pointer none, .int .i64 x] w fun e w' => e = .returned (.int .i64 1) ∧ w = w' := by
  go_enter Try.func45, Try.ntmps45
  go_wp2_with fail
  refine (sectors_nil _).mono ?_
  rintro e w1 ⟨rfl, rfl⟩
  go_wp2_with fail
  go_ret
  exact ⟨rfl, rfl⟩
theorem missing_is (w : World) (S : Nat → Prop) (g : Nat) (s : St) (x : Int) (h : Dsk w S g s) :
    Calls Try.prog 45 #[.pointer (some ⟨g, 0, none⟩), .int .i64 x] w fun e w' => e = .returned (.int .i64 (if 0 ≤ x ∧ x < ((secs s / 8 : Nat) : Int) then 0 else 2)) ∧ w = w' := by
  have H := Lib.hid (sectors_any w S g s h)
  have HP := Lib.hid (pages_is w S g s h)
  have hpos : 0 < secs s := by obtain ⟨_, _, _, _, _, _, _, _, ok⟩ := h; exact ok.some_
  clear h
  have hne : (((secs s : Nat) : Int) == 0) = false := by simp; omega
  clear hpos
  generalize secs s / 8 = k at *
  generalize secs s = k0 at *
  by_cases h0 : 0 ≤ x
  · by_cases h1 : x < (k : Int)
    · rw [if_pos ⟨h0, h1⟩]
      go_enter Try.func45, Try.ntmps45
      go_wp2_with fail
      refine H.out.mono ?_
      rintro e w1 ⟨rfl, rfl⟩
      go_wp2_with fail
      refine HP.out.mono ?_
      rintro e w1 ⟨rfl, rfl⟩
      go_wp2_with fail
      go_ret
      exact ⟨rfl, rfl⟩
    · rw [if_neg (fun h => h1 h.2)]
      go_enter Try.func45, Try.ntmps45
      go_wp2_with fail
      refine H.out.mono ?_
      rintro e w1 ⟨rfl, rfl⟩
      go_wp2_with fail
      refine HP.out.mono ?_
      rintro e w1 ⟨rfl, rfl⟩
      go_wp2_with fail
      go_ret
      exact ⟨rfl, rfl⟩
  · rw [if_neg (fun h => h0 h.1)]
    go_enter Try.func45, Try.ntmps45
    go_wp2_with fail
    refine H.out.mono ?_
    rintro e w1 ⟨rfl, rfl⟩
    go_wp2_with fail
    go_ret
    exact ⟨rfl, rfl⟩
/-- Block k holds this number. -/
def Num1 (w : World) (k : Nat) (x : Int) : Prop := w.heap[k]? = some (.cells #[.int .i64 x] 23 (0, 0))
theorem Num1.cell {w : World} {k : Nat} {x : Int} (h : Num1 w k x) : w.cell? ⟨k, 0, none⟩ = some (.int .i64 x) := by rw [cell_of_row _ _ _ _ _ _ h]; rfl
theorem Num1.frozen {w : World} {k : Nat} {x : Int} (h : Num1 w k x) : w.frozen? ⟨k, 0, none⟩ = false := by unfold Num1 at h; simp [World.frozen?, h]
theorem Num1.set {w : World} {k : Nat} {x : Int} (h : Num1 w k x) (y : Int) : Num1 (w.setCell ⟨k, 0, none⟩ (.int .i64 y)) k y := by
  unfold Num1 at h ⊢
  simp [World.setCell, Array.getElem?_modify, h]
theorem Num1.oth {w : World} {k j i : Nat} {x : Int} {v : Value} (h : Num1 w k x) (hne : k ≠ j) : Num1 (w.setCell ⟨j, i, none⟩ v) k x := (heap_cell_other hne).trans h
theorem through1_d (w : World) (p q : Nat) (x y : Int) (u : FrameMode) (hp : Num1 w p x) (hq : Num1 w q y) :
    CallsD Try.prog 52 #[.pointer (some ⟨p, 0, none⟩), .pointer (some ⟨q, 0, none⟩)] u w fun e u' w' => u' = u ∧ (e = .returned (.tuple #[]) ∧ w' = w.setCell ⟨q, 0, none⟩ (.int .i64 x)) := by
  have c1 := hp.cell
  have c2 := hq.cell
  have f2 := hq.frozen
  clear hp hq
  go_enter_d Try.func52, Try.ntmps52
  go_wp2
  go_end0
  exact ⟨rfl, rfl⟩
def ThRel (I : Nat → World → Prop) (p : Nat) (i : Value) (wr : World) : Prop := ∃ k : Nat, k ≤ 8 ∧ i = .int .i64 (k : Int) ∧ I k wr ∧ Num1 wr p 0 ∧ Num1 wr (p + 1) 0
def ThPost (I : Nat → World → Prop) (J : Nat → World → Prop) (e : Ending) (w' : World) : Prop := (e = .returned (.int .i64 0) ∧ I 8 w') ∨ ∃ er : Nat, er ≠ 0 ∧ e = .returned (.int .i64 (er : Int)) ∧ J er w'
set_option maxRecDepth 100000 in
set_option maxHeartbeats 4000000 in
/-- A page's sectors, one by one, whatever is done with each: 'I k': k of them are done; 'J e': one failed so. -/
theorem through_any (w : World) (n q : Nat) (caps : Array Value) (I J : Nat → World → Prop) (hn : n ≤ 4096) (hq : ∀ args W, (callFunc q args).run Try.prog W = .ok (.enter q args) W)
    (h0 : ∀ W, Below w.heap.size w W → W.heap.size = w.heap.size + 2 → I 0 W)
    (hs : ∀ (i : Nat) (W : World), i < 8 → I i W → Num1 W w.heap.size 0 → Num1 W (w.heap.size + 1) 0 → Calls Try.prog q (#[.int .i64 ((8 * n + i : Nat) : Int), .int .i64 ((512 * i : Nat) : Int)] ++ caps) W fun e w' => ∃ er : Nat, e = .returned (.int .i64 (er : Int)) ∧ er ≤ 100 ∧ Num1 w' w.heap.size 0 ∧ Num1 w' (w.heap.size + 1) 0 ∧ (er = 0 → I (i + 1) w') ∧ (er ≠ 0 → J er w'))
    (hI : ∀ i W j v, I i W → (j = w.heap.size ∨ j = w.heap.size + 1) → I i (W.setCell ⟨j, 0, none⟩ v)) (hJ : ∀ i W j v, J i W → (j = w.heap.size ∨ j = w.heap.size + 1) → J i (W.setCell ⟨j, 0, none⟩ v)) :
    Calls Try.prog 46 #[.int .i64 (n : Int), .func (.func q) #[] caps] w (ThPost I J) := by
  have hmf : ∀ (fn : Fn) (first cap : Array Value) (w : World), (Instr.makeFunc fn first cap).run Try.prog w = .ok (.func fn first cap) w := fun _ _ _ _ => rfl
  have HQ := Lib.hid hq
  have HS := Lib.hid hs
  have HI := Lib.hid hI
  have HJ := Lib.hid hJ
  obtain ⟨w0, hw0⟩ : ∃ w0, (w.alloc (.cells #[.int .i64 0] 23)).alloc (.cells #[.int .i64 0] 23) = w0 := ⟨_, rfl⟩
  have hb0 : Below w.heap.size w w0 := hw0 ▸ (below_new w _).alloc (by simp) _
  have H0 : Hid (I 0 w0) := h0 w0 hb0 (by rw [← hw0]; simp)
  have HN1 : Hid (Num1 w0 w.heap.size 0) := by
    rw [Hid, ← hw0]
    exact (heap_alloc_old _ _ (by simp)).trans (heap_alloc_new w _)
  have HN2 : Hid (Num1 w0 (w.heap.size + 1) 0) := by
    rw [Hid, ← hw0]
    have := heap_alloc_new (w.alloc (.cells #[.int .i64 0] 23)) (.cells #[.int .i64 0] 23)
    rw [World.size_alloc] at this
    exact this
  have HW0 := Lib.hid hw0
  clear hq hs hI hJ h0 hw0 hb0
  go_enter_defers Try.func46, Try.ntmps46
  go_wp2_with fail
  rw [HW0.out]
  go_loopw [8] (fun i wr => ThRel I w.heap.size i wr) (fun i _ => 8 - (intOf i).toNat)
  case atStart => exact ⟨0, by omega, rfl, H0.out, HN1.out, HN2.out⟩
  case round =>
    obtain ⟨k, hk, rfl, hi, hn1, hn2⟩ := hrel
    have HII := Lib.hid hi
    have HM1 := Lib.hid hn1
    have HM2 := Lib.hid hn2
    clear hi hn1 hn2
    by_cases hlt : k < 8
    · have CS := Lib.hid (HS.out k wr hlt HII.out HM1.out HM2.out)
      have e1 : ((8 * n + k : Nat) : Int) = (n : Int) * 8 + (k : Int) := by omega
      have e2 : ((512 * k : Nat) : Int) = (k : Int) * 512 := by omega
      rw [e1, e2] at CS
      clear e1 e2
      go_wp2_with fail
      rw [HQ.out, Oper.upon_enter]
      refine CS.out.mono ?_
      rintro e w2 ⟨er, rfl, her, hm1, hm2, hz, hnz⟩
      have c1 := hm2.cell
      have f1 := hm2.frozen
      have HA1 := Lib.hid hm1
      have HA2 := Lib.hid hm2
      by_cases h0 : er = 0
      · subst h0
        have HZ := Lib.hid (hz rfl)
        have HF2 := Lib.hid (hm2.set 0)
        have HF1 := Lib.hid (hm1.oth (j := w.heap.size + 1) (i := 0) (v := .int .i64 0) (by omega))
        have HNI := Lib.hid (HI.out (k + 1) w2 (w.heap.size + 1) (.int .i64 0) HZ.out (.inr rfl))
        have d1 := HF2.out.cell
        clear hz hnz hm1 hm2
        go_wp2_with fail
        go_roundw
        case rel => exact ⟨k + 1, by omega, by go_num, HNI.out, HF1.out, HF2.out⟩
        case measure => simp [intOf]; omega
      · have HZ := Lib.hid (hnz h0)
        have hne : ((er : Int) != 0) = true := by simp only [bne, beq_eq_false_iff_ne, Bool.not_eq_true', ne_eq]; omega
        have HF2 := Lib.hid (hm2.set er)
        have HF1 := Lib.hid (hm1.oth (j := w.heap.size + 1) (i := 0) (v := .int .i64 er) (by omega))
        have HNJ := Lib.hid (HJ.out er w2 (w.heap.size + 1) (.int .i64 er) HZ.out (.inr rfl))
        have d1 := HF2.out.cell
        have H0N := Lib.hid h0
        clear hz hnz hm1 hm2 h0
        go_wp2_with fail
        refine leaves_cons (f := 52) (args := #[.pointer (some ⟨w.heap.size + 1, 0, none⟩), .pointer (some ⟨w.heap.size, 0, none⟩)]) (by simp) (by simp [go_sem]) ?_
        refine (through1_d _ (w.heap.size + 1) w.heap.size er 0 .returning HF2.out HF1.out).mono ?_
        rintro e u' w'' ⟨rfl, rfl, rfl⟩
        have HE := Lib.hid (HF1.out.set er)
        have HJ2 := Lib.hid (HJ.out er _ w.heap.size (.int .i64 er) HNJ.out (.inl rfl))
        generalize ((w2.setCell ⟨w.heap.size + 1, 0, none⟩ (.int .i64 er)).setCell ⟨w.heap.size, 0, none⟩ (.int .i64 er)) = w9 at *
        have d9 := HE.out.cell
        simp [Leaves, settle, results, Try.results46, go_sem, d9]
        exact .inr ⟨er, H0N.out, rfl, HJ2.out⟩
    · obtain rfl : k = 8 := by omega
      go_wp2_with fail
      refine leaves_cons (f := 52) (args := #[.pointer (some ⟨w.heap.size + 1, 0, none⟩), .pointer (some ⟨w.heap.size, 0, none⟩)]) (by simp) (by simp [go_sem]) ?_
      refine (through1_d _ (w.heap.size + 1) w.heap.size 0 0 .returning HM2.out HM1.out).mono ?_
      rintro e u' w'' ⟨rfl, rfl, rfl⟩
      have HE := Lib.hid (HM1.out.set 0)
      have HI2 := Lib.hid (HI.out 8 _ w.heap.size (.int .i64 0) HII.out (.inl rfl))
      generalize wr.setCell ⟨w.heap.size, 0, none⟩ (.int .i64 0) = w9 at *
      have d9 := HE.out.cell
      simp [Leaves, settle, results, Try.results46, go_sem, d9]
      exact .inl ⟨rfl, HI2.out⟩
end Go.Proofs.Ytmfcckmcbmlhmaa
