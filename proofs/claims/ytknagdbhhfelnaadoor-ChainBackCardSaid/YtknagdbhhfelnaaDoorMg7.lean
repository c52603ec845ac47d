/-
  The texts PgN, PgO, PgP in one. Conditions: as each part says.
-/
import Derived.Test.YtknagdbhhfelnaaDoorCZer
import Derived.Test.YtknagdbhhfelnaaDoorMg3
import Derived.Defers
/-
  Package page over sectors: Pages, missing, through by their contracts. Conditions: none but that the disk lies there.
-/
namespace Go.Proofs.YtknagdbhhfelnaaDoor
open Go.RowKit Go.Maps
set_option maxRecDepth 100000

theorem pages_is (w : World) (S : Nat → Prop) (g : Nat) (s : St) (h : Dsk w S g s) :
    Calls Tryd.prog 32 #[.pointer (some ⟨g, 0, none⟩)] w fun e w' => e = .returned (.int .i64 ((secs s / 8 : Nat) : Int)) ∧ w = w' := by
  have H := Lib.hid (sectors_any w S g s h)
  have hfew : secs s ≤ 32768 := by obtain ⟨_, _, _, _, _, _, _, _, ok⟩ := h; exact ok.few
  clear h
  generalize secs s = k at *
  have hw : IntKind.i64.wrap ((k : Int) / 8) = ((k / 8 : Nat) : Int) := by rw [IntKind.wrap_i64]; omega
  go_enter Tryd.func32, Tryd.ntmps32
  go_wp2_with fail
  refine H.out.mono ?_
  rintro e w1 ⟨rfl, rfl⟩
  go_wp2_with fail
  go_ret
  exact ⟨ret_int (by first | omega | rw [hw]), rfl⟩
theorem pages_nil (w : World) :
    Calls Tryd.prog 32 #[.pointer none] w fun e w' => e = .returned (.int .i64 0) ∧ w = w' := by
  go_enter Tryd.func32, Tryd.ntmps32
  go_wp2_with fail
  refine (sectors_nil _).mono ?_
  rintro e w1 ⟨rfl, rfl⟩
  go_wp2_with fail
  go_ret
  exact ⟨rfl, rfl⟩
theorem missing_nil (w : World) (x : Int) :
    Calls Tryd.prog 84 #[.pointer none, .int .i64 x] w fun e w' => e = .returned (.int .i64 1) ∧ w = w' := by
  go_enter Tryd.func84, Tryd.ntmps84
  go_wp2_with fail
  refine (sectors_nil _).mono ?_
  rintro e w1 ⟨rfl, rfl⟩
  go_wp2_with fail
  go_ret
  exact ⟨rfl, rfl⟩
theorem missing_is (w : World) (S : Nat → Prop) (g : Nat) (s : St) (x : Int) (h : Dsk w S g s) :
    Calls Tryd.prog 84 #[.pointer (some ⟨g, 0, none⟩), .int .i64 x] w fun e w' => e = .returned (.int .i64 (if 0 ≤ x ∧ x < ((secs s / 8 : Nat) : Int) then 0 else 2)) ∧ w = w' := by
  have H := Lib.hid (sectors_any w S g s h)
  have HP := Lib.hid (pages_is w S g s h)
  have hpos : 0 < secs s := by obtain ⟨_, _, _, _, _, _, _, _, ok⟩ := h; exact ok.some_
  clear h
  have hne : (((secs s : Nat) : Int) == 0) = false := by simp; omega
  clear hpos
  generalize secs s / 8 = k at *
  generalize secs s = k0 at *
  by_cases h0 : 0 ≤ x
  · by_cases h1 : x < (k : Int)
    · rw [if_pos ⟨h0, h1⟩]
      go_enter Tryd.func84, Tryd.ntmps84
      go_wp2_with fail
      refine H.out.mono ?_
      rintro e w1 ⟨rfl, rfl⟩
      go_wp2_with fail
      refine HP.out.mono ?_
      rintro e w1 ⟨rfl, rfl⟩
      go_wp2_with fail
      go_ret
      exact ⟨rfl, rfl⟩
    · rw [if_neg (fun h => h1 h.2)]
      go_enter Tryd.func84, Tryd.ntmps84
      go_wp2_with fail
      refine H.out.mono ?_
      rintro e w1 ⟨rfl, rfl⟩
      go_wp2_with fail
      refine HP.out.mono ?_
      rintro e w1 ⟨rfl, rfl⟩
      go_wp2_with fail
      go_ret
      exact ⟨rfl, rfl⟩
  · rw [if_neg (fun h => h0 h.1)]
    go_enter Tryd.func84, Tryd.ntmps84
    go_wp2_with fail
    refine H.out.mono ?_
    rintro e w1 ⟨rfl, rfl⟩
    go_wp2_with fail
    go_ret
    exact ⟨rfl, rfl⟩
/-- Block k holds this number. -/
def Num1 (w : World) (k : Nat) (x : Int) : Prop := w.heap[k]? = some (.cells #[.int .i64 x] 23 (0, 0))
theorem Num1.cell {w : World} {k : Nat} {x : Int} (h : Num1 w k x) : w.cell? ⟨k, 0, none⟩ = some (.int .i64 x) := by rw [cell_of_row _ _ _ _ _ _ h]; rfl
theorem Num1.frozen {w : World} {k : Nat} {x : Int} (h : Num1 w k x) : w.frozen? ⟨k, 0, none⟩ = false := by unfold Num1 at h; simp [World.frozen?, h]
theorem Num1.set {w : World} {k : Nat} {x : Int} (h : Num1 w k x) (y : Int) : Num1 (w.setCell ⟨k, 0, none⟩ (.int .i64 y)) k y := by
  unfold Num1 at h ⊢
  simp [World.setCell, Array.getElem?_modify, h]
theorem Num1.oth {w : World} {k j i : Nat} {x : Int} {v : Value} (h : Num1 w k x) (hne : k ≠ j) : Num1 (w.setCell ⟨j, i, none⟩ v) k x := (heap_cell_other hne).trans h
theorem through1_d (w : World) (p q : Nat) (x y : Int) (u : FrameMode) (hp : Num1 w p x) (hq : Num1 w q y) :
    CallsD Tryd.prog 97 #[.pointer (some ⟨p, 0, none⟩), .pointer (some ⟨q, 0, none⟩)] u w fun e u' w' => u' = u ∧ (e = .returned (.tuple #[]) ∧ w' = w.setCell ⟨q, 0, none⟩ (.int .i64 x)) := by
  have c1 := hp.cell
  have c2 := hq.cell
  have f2 := hq.frozen
  clear hp hq
  go_enter_d Tryd.func97, Tryd.ntmps97
  go_wp2
  go_end0
  exact ⟨rfl, rfl⟩
def ThRel (I : Nat → World → Prop) (p : Nat) (i : Value) (wr : World) : Prop := ∃ k : Nat, k ≤ 8 ∧ i = .int .i64 (k : Int) ∧ I k wr ∧ Num1 wr p 0 ∧ Num1 wr (p + 1) 0
def ThPost (I : Nat → World → Prop) (J : Nat → World → Prop) (e : Ending) (w' : World) : Prop := (e = .returned (.int .i64 0) ∧ I 8 w') ∨ ∃ er : Nat, er ≠ 0 ∧ e = .returned (.int .i64 (er : Int)) ∧ J er w'
set_option maxRecDepth 100000 in
set_option maxHeartbeats 4000000 in
/-- A page's sectors, one by one, whatever is done with each: 'I k': k of them are done; 'J e': one failed so. -/
theorem through_any (w : World) (n q : Nat) (caps : Array Value) (I J : Nat → World → Prop) (hn : n ≤ 4096) (hq : ∀ args W, (callFunc q args).run Tryd.prog W = .ok (.enter q args) W)
    (h0 : ∀ W, Below w.heap.size w W → W.heap.size = w.heap.size + 2 → I 0 W)
    (hs : ∀ (i : Nat) (W : World), i < 8 → I i W → Num1 W w.heap.size 0 → Num1 W (w.heap.size + 1) 0 → Calls Tryd.prog q (#[.int .i64 ((8 * n + i : Nat) : Int), .int .i64 ((512 * i : Nat) : Int)] ++ caps) W fun e w' => ∃ er : Nat, e = .returned (.int .i64 (er : Int)) ∧ er ≤ 100 ∧ Num1 w' w.heap.size 0 ∧ Num1 w' (w.heap.size + 1) 0 ∧ (er = 0 → I (i + 1) w') ∧ (er ≠ 0 → J er w'))
    (hI : ∀ i W j v, I i W → (j = w.heap.size ∨ j = w.heap.size + 1) → I i (W.setCell ⟨j, 0, none⟩ v)) (hJ : ∀ i W j v, J i W → (j = w.heap.size ∨ j = w.heap.size + 1) → J i (W.setCell ⟨j, 0, none⟩ v)) :
    Calls Tryd.prog 85 #[.int .i64 (n : Int), .func (.func q) #[] caps] w (ThPost I J) := by
  have hmf : ∀ (fn : Fn) (first cap : Array Value) (w : World), (Instr.makeFunc fn first cap).run Tryd.prog w = .ok (.func fn first cap) w := fun _ _ _ _ => rfl
  have HQ := Lib.hid hq
  have HS := Lib.hid hs
  have HI := Lib.hid hI
  have HJ := Lib.hid hJ
  obtain ⟨w0, hw0⟩ : ∃ w0, (w.alloc (.cells #[.int .i64 0] 23)).alloc (.cells #[.int .i64 0] 23) = w0 := ⟨_, rfl⟩
  have hb0 : Below w.heap.size w w0 := hw0 ▸ (below_new w _).alloc (by simp) _
  have H0 : Hid (I 0 w0) := h0 w0 hb0 (by rw [← hw0]; simp)
  have HN1 : Hid (Num1 w0 w.heap.size 0) := by
    rw [Hid, ← hw0]
    exact (heap_alloc_old _ _ (by simp)).trans (heap_alloc_new w _)
  have HN2 : Hid (Num1 w0 (w.heap.size + 1) 0) := by
    rw [Hid, ← hw0]
    have := heap_alloc_new (w.alloc (.cells #[.int .i64 0] 23)) (.cells #[.int .i64 0] 23)
    rw [World.size_alloc] at this
    exact this
  have HW0 := Lib.hid hw0
  clear hq hs hI hJ h0 hw0 hb0
  go_enter_defers Tryd.func85, Tryd.ntmps85
  go_wp2_with fail
  rw [HW0.out]
  go_loopw [8] (fun i wr => ThRel I w.heap.size i wr) (fun i _ => 8 - (intOf i).toNat)
  case atStart => exact ⟨0, by omega, rfl, H0.out, HN1.out, HN2.out⟩
  case round =>
    obtain ⟨k, hk, rfl, hi, hn1, hn2⟩ := hrel
    have HII := Lib.hid hi
    have HM1 := Lib.hid hn1
    have HM2 := Lib.hid hn2
    clear hi hn1 hn2
    by_cases hlt : k < 8
    · have CS := Lib.hid (HS.out k wr hlt HII.out HM1.out HM2.out)
      have e1 : ((8 * n + k : Nat) : Int) = (n : Int) * 8 + (k : Int) := by omega
      have e2 : ((512 * k : Nat) : Int) = (k : Int) * 512 := by omega
      rw [e1, e2] at CS
      clear e1 e2
      go_wp2_with fail
      rw [HQ.out, Oper.upon_enter]
      refine CS.out.mono ?_
      rintro e w2 ⟨er, rfl, her, hm1, hm2, hz, hnz⟩
      have c1 := hm2.cell
      have f1 := hm2.frozen
      have HA1 := Lib.hid hm1
      have HA2 := Lib.hid hm2
      by_cases h0 : er = 0
      · subst h0
        have HZ := Lib.hid (hz rfl)
        have HF2 := Lib.hid (hm2.set 0)
        have HF1 := Lib.hid (hm1.oth (j := w.heap.size + 1) (i := 0) (v := .int .i64 0) (by omega))
        have HNI := Lib.hid (HI.out (k + 1) w2 (w.heap.size + 1) (.int .i64 0) HZ.out (.inr rfl))
        have d1 := HF2.out.cell
        clear hz hnz hm1 hm2
        go_wp2_with fail
        go_roundw
        case rel => exact ⟨k + 1, by omega, by go_num, HNI.out, HF1.out, HF2.out⟩
        case measure => simp [intOf]; omega
      · have HZ := Lib.hid (hnz h0)
        have hne : ((er : Int) != 0) = true := by simp only [bne, beq_eq_false_iff_ne, Bool.not_eq_true', ne_eq]; omega
        have HF2 := Lib.hid (hm2.set er)
        have HF1 := Lib.hid (hm1.oth (j := w.heap.size + 1) (i := 0) (v := .int .i64 er) (by omega))
        have HNJ := Lib.hid (HJ.out er w2 (w.heap.size + 1) (.int .i64 er) HZ.out (.inr rfl))
        have d1 := HF2.out.cell
        have H0N := Lib.hid h0
        clear hz hnz hm1 hm2 h0
        go_wp2_with fail
        refine leaves_cons (f := 97) (args := #[.pointer (some ⟨w.heap.size + 1, 0, none⟩), .pointer (some ⟨w.heap.size, 0, none⟩)]) (by simp) (by simp [go_sem]) ?_
        refine (through1_d _ (w.heap.size + 1) w.heap.size er 0 .returning HF2.out HF1.out).mono ?_
        rintro e u' w'' ⟨rfl, rfl, rfl⟩
        have HE := Lib.hid (HF1.out.set er)
        have HJ2 := Lib.hid (HJ.out er _ w.heap.size (.int .i64 er) HNJ.out (.inl rfl))
        generalize ((w2.setCell ⟨w.heap.size + 1, 0, none⟩ (.int .i64 er)).setCell ⟨w.heap.size, 0, none⟩ (.int .i64 er)) = w9 at *
        have d9 := HE.out.cell
        simp [Leaves, settle, results, Tryd.results85, go_sem, d9]
        exact .inr ⟨er, H0N.out, rfl, HJ2.out⟩
    · obtain rfl : k = 8 := by omega
      go_wp2_with fail
      refine leaves_cons (f := 97) (args := #[.pointer (some ⟨w.heap.size + 1, 0, none⟩), .pointer (some ⟨w.heap.size, 0, none⟩)]) (by simp) (by simp [go_sem]) ?_
      refine (through1_d _ (w.heap.size + 1) w.heap.size 0 0 .returning HM2.out HM1.out).mono ?_
      rintro e u' w'' ⟨rfl, rfl, rfl⟩
      have HE := Lib.hid (HM1.out.set 0)
      have HI2 := Lib.hid (HI.out 8 _ w.heap.size (.int .i64 0) HII.out (.inl rfl))
      generalize wr.setCell ⟨w.heap.size, 0, none⟩ (.int .i64 0) = w9 at *
      have d9 := HE.out.cell
      simp [Leaves, settle, results, Tryd.results85, go_sem, d9]
      exact .inl ⟨rfl, HI2.out⟩
end Go.Proofs.YtknagdbhhfelnaaDoor

/-
  Package page over sectors: Load by its contract. Conditions: none but that the disk lies there.
-/
namespace Go.Proofs.YtknagdbhhfelnaaDoor
open Go.RowKit Go.Maps
set_option maxRecDepth 100000

/-- A page's sectors read, k of them left, what came so far. -/
def loadI (n : Nat) : Nat → St → List UInt8 → List UInt8 × Nat × St
  | 0, s, acc => (acc, 0, s)
  | k + 1, s, acc => if (readR s ((8 * n + (7 - k) : Nat) : Int)).2.1 = 0 then loadI n k (readR s ((8 * n + (7 - k) : Nat) : Int)).2.2 (acc ++ (readR s ((8 * n + (7 - k) : Nat) : Int)).1) else ([], (readR s ((8 * n + (7 - k) : Nat) : Int)).2.1, (readR s ((8 * n + (7 - k) : Nat) : Int)).2.2)
def loadP (s : St) (x : Int) : List UInt8 × Nat × St := if 0 ≤ x ∧ x < ((secs s / 8 : Nat) : Int) then loadI x.toNat 8 s [] else ([], 2, s)
theorem loadI_next {n i : Nat} (hi : i < 8) (s : St) (acc : List UInt8) : loadI n (8 - i) s acc = if (readR s ((8 * n + i : Nat) : Int)).2.1 = 0 then loadI n (8 - (i + 1)) (readR s ((8 * n + i : Nat) : Int)).2.2 (acc ++ (readR s ((8 * n + i : Nat) : Int)).1) else ([], (readR s ((8 * n + i : Nat) : Int)).2.1, (readR s ((8 * n + i : Nat) : Int)).2.2) := by
  rw [show 8 - i = (7 - i) + 1 by omega, loadI, show 7 - (7 - i) = i by omega, show 8 - (i + 1) = 7 - i by omega]
theorem readR_in {s : St} {a : Nat} (ok : OkSt s) (h : a < secs s) : ((readR s (a : Int)).2.1 = 0 → (readR s (a : Int)).1.length = 512) ∧ ((readR s (a : Int)).2.1 ≠ 0 → (readR s (a : Int)).1 = []) ∧ (readR s (a : Int)).2.1 ≤ 8 ∧ secs (readR s (a : Int)).2.2 = secs s ∧ OkSt (readR s (a : Int)).2.2 := by
  unfold readR
  rw [if_pos ⟨by omega, by omega⟩]
  cases hb : blows s.F
  · simp only [Bool.false_eq_true, if_false, Int.toNat_natCast]
    exact ⟨fun _ => readB_len ok h, fun e => by simp at e, by omega, rfl, ok.tick⟩
  · simp only [if_true]
    exact ⟨fun e => absurd e (by omega), fun _ => by first | rfl | trivial, by omega, rfl, ok.tick⟩
/-- Block k holds this value alone. -/
def One (w : World) (k : Nat) (v : Value) (t : TypeId) : Prop := w.heap[k]? = some (.cells #[v] t (0, 0))
theorem One.cell {w : World} {k : Nat} {v : Value} {t : TypeId} (h : One w k v t) : w.cell? ⟨k, 0, none⟩ = some v := by rw [cell_of_row _ _ _ _ _ _ h]; rfl
theorem One.lt {w : World} {k : Nat} {v : Value} {t : TypeId} (h : One w k v t) : k < w.heap.size := (Array.getElem?_eq_some_iff.1 h).1
theorem One.trn {w w' : World} {T : Nat → Prop} {k : Nat} {v : Value} {t : TypeId} (h : One w k v t) (ht : Trn T w w') (hk : ¬ T k) : One w' k v t := (ht.block k h.lt hk).trans h
theorem trn_set (w : World) (j : Nat) (v : Value) : Trn (fun k => k = j) w (w.setCell ⟨j, 0, none⟩ v) := (Trn.refl _ _).setCell _ (fun _ => rfl)
theorem own_trn {w w' : World} {T : Nat → Prop} {B : Nat} {e : TypeId} {v : Value} {l : List UInt8} (h : Own w B e v l) (ht : Trn T w w') (hk : ∀ k, v.ownBlock = some k → ¬ T k) : Own w' B e v l :=
  ownsRow_sameB h (fun k e' => by
    obtain ⟨c2, h2⟩ := ownsRow_block (h.lower (Nat.zero_le _)) e'
    exact ht.block k (Array.getElem?_eq_some_iff.1 h2).1 (hk k e'))
theorem own_len {w : World} {B : Nat} {e : TypeId} {A : Option Addr} {n c : Nat} {l : List UInt8} (h : Own w B e (.slice A n c) l) : l.length = n := by
  rcases h.2 with ⟨e, e0⟩ | ⟨g', cap, cur, e, _⟩
  · injection e with _ e _; omega
  · injection e with _ e _; exact e.symm
theorem Dsk.okS {w : World} {S : Nat → Prop} {g : Nat} {s : St} (h : Dsk w S g s) : OkSt s := by
  obtain ⟨_, _, _, _, _, _, _, _, ok⟩ := h
  exact ok
theorem splice_next {B row : List UInt8} {i : Nat} (hB : B.length = 4096) (hr : row.length = 512) (hi : i < 8) : (splice B (512 * i) row).take (512 * (i + 1)) = B.take (512 * i) ++ row := by
  unfold splice
  rw [← List.append_assoc (B.take (512 * i))]
  have : (B.take (512 * i) ++ row).length = 512 * (i + 1) := by rw [List.length_append, List.length_take, hr]; omega
  exact List.take_left' this
set_option maxRecDepth 100000 in
set_option maxHeartbeats 2000000 in
/-- The closure that Load hands to through. -/
theorem load1_is (w : World) (S : Nat → Prop) (d db bb rb a pt : Nat) (s : St) (B : List UInt8) (h : Dsk w S d s) (hd : One w db (.pointer (some ⟨d, 0, none⟩)) 30) (hb : One w bb (.slice (some ⟨rb, 0, none⟩) 4096 4096) 27)
    (ho : Own w 0 5 (.slice (some ⟨rb, 0, none⟩) 4096 4096) B) (hrb : ¬ S rb) (hbb : ¬ S bb) (ha : a < secs s) (hpt : pt + 512 ≤ 4096) :
    Calls Tryd.prog 90 #[.int .i64 (a : Int), .int .i64 (pt : Int), .pointer (some ⟨db, 0, none⟩), .pointer (some ⟨bb, 0, none⟩)] w
      fun e w' => e = .returned (.int .i64 (((readR s (a : Int)).2.1 : Nat) : Int)) ∧ Dsk w' S d (readR s (a : Int)).2.2 ∧ Own w' 0 5 (.slice (some ⟨rb, 0, none⟩) 4096 4096) (splice B pt (readR s (a : Int)).1) ∧ Trn (fun k => S k ∨ k = rb) w w' := by
  have c1 := hd.cell
  have HB := Lib.hid hb
  have HO := Lib.hid ho
  have HR := Lib.hid (read_is w S d s (a : Int) h)
  have HNR := Lib.hid hrb
  have HNB := Lib.hid hbb
  have HRL := Lib.hid (readR_in h.okS ha)
  have HDL := Lib.hid h.lt
  have sl : ∀ W, (Instr.slice 27 (.slice (some ⟨rb, 0, none⟩) 4096 4096) (some (.int .i64 (pt : Int))) none none).run Tryd.prog W = .ok (.slice (some ⟨rb, pt, none⟩) (4096 - pt) (4096 - pt)) W := pgslice1 rb pt (by omega)
  clear h hd hb ho hrb hbb
  generalize readR s (a : Int) = r at *
  go_enter Tryd.func90, Tryd.ntmps90
  go_wp2_with fail
  refine HR.out.mono ?_
  rintro e w1 ⟨v1, rfl, hown1, hdk1, ht1⟩
  obtain ⟨A1, n1, k1, rfl, N1, hnc1, hcm1⟩ := hown1.byt.form
  have ho1 := own_trn HO.out ht1 (fun k e => by simp [Value.ownBlock] at e; exact e ▸ HNR.out)
  have hle : r.1.length ≤ 4096 - pt := by
    by_cases e0 : r.2.1 = 0
    · rw [HRL.out.1 e0]; omega
    · rw [HRL.out.2.1 e0]; simp
  obtain ⟨w2, hrun, hown2, ht2, hs2⟩ := run_copyB (w := w1) 3 rb pt 4096 4096 (4096 - pt) (4096 - pt) B r.1 (.slice A1 n1 k1) ho1 hown1.byt hle (by omega)
  have cb := (HB.out.trn ht1 HNB.out).cell
  have HD2 := Lib.hid (hdk1.trn ht2 (fun k hk e => HNR.out (e ▸ hk)))
  have HO2 := Lib.hid hown2
  have HT2 := Lib.hid ((ht1.wide (fun _ h => .inl h) : Trn (fun k => S k ∨ k = rb) w w1).trans ht2 (fun i _ e => .inr e))
  clear hown1 hdk1 ht1 ho1 hown2 ht2 hs2 hle
  go_wp2_with fail
  go_ret
  exact ⟨rfl, HD2.out, HO2.out, HT2.out⟩
theorem enterL1 : ∀ args W, (callFunc 90 args).run Tryd.prog W = .ok (.enter 90 args) W := fun _ _ => rfl
/-- Load under way: i sectors are there. -/
structure LoadSt (w0 : World) (S : Nat → Prop) (d db bb rb n : Nat) (s : St) (i : Nat) (W : World) (s' : St) (B : List UInt8) : Prop where
  dsk : Dsk W S d s'
  own : Own W 0 5 (.slice (some ⟨rb, 0, none⟩) 4096 4096) B
  cd : One W db (.pointer (some ⟨d, 0, none⟩)) 30
  cb : One W bb (.slice (some ⟨rb, 0, none⟩) 4096 4096) 27
  sec : secs s' = secs s
  rest : loadI n 8 s [] = loadI n (8 - i) s' (B.take (512 * i))
  trn : Trn S w0 W
def LoadJ (w0 : World) (S : Nat → Prop) (d n : Nat) (s : St) (er : Nat) (W : World) : Prop := ∃ s', loadI n 8 s [] = ([], er, s') ∧ Dsk W S d s' ∧ Trn S w0 W
theorem LoadSt.set {w0 W : World} {S : Nat → Prop} {d db bb rb n i j : Nat} {s s' : St} {B : List UInt8} {v : Value} (h : LoadSt w0 S d db bb rb n s i W s' B) (hj : w0.heap.size ≤ j) (hS : ¬ S j) (h1 : j ≠ db) (h2 : j ≠ bb) (h3 : j ≠ rb) :
    LoadSt w0 S d db bb rb n s i (W.setCell ⟨j, 0, none⟩ v) s' B :=
  ⟨h.dsk.trn (trn_set W j v) (fun k hk e => hS (e ▸ hk)), own_trn h.own (trn_set W j v) (fun k e => by simp [Value.ownBlock] at e; omega), h.cd.trn (trn_set W j v) (Ne.symm h1), h.cb.trn (trn_set W j v) (Ne.symm h2), h.sec, h.rest, h.trn.setCell _ (fun hlt => by omega)⟩
theorem load_through (w0 w : World) (S : Nat → Prop) (d db bb rb n : Nat) (s : St) (hn : n < secs s / 8) (hs8 : secs s ≤ 32768) (h : LoadSt w0 S d db bb rb n s 0 w s (zsB 4096)) (hw : w0.heap.size ≤ w.heap.size) (hS : ∀ k, S k → k < w0.heap.size) (hdb : w0.heap.size ≤ db ∧ db < w.heap.size) (hbb : w0.heap.size ≤ bb ∧ bb < w.heap.size) (hrb : w0.heap.size ≤ rb ∧ rb < w.heap.size) :
    Calls Tryd.prog 85 #[.int .i64 (n : Int), .func (.func 90) #[] #[.pointer (some ⟨db, 0, none⟩), .pointer (some ⟨bb, 0, none⟩)]] w (ThPost (fun i W => ∃ s' B, LoadSt w0 S d db bb rb n s i W s' B) (LoadJ w0 S d n s)) := by
  refine through_any w n _ _ _ _ (by omega) enterL1 ?_ ?_ ?_ ?_
  · intro W hb _
    have ht : Trn (fun _ => False) w W := Trn.of_below hb
    exact ⟨s, zsB 4096, h.dsk.below hb, own_trn h.own ht (fun _ _ f => f), h.cd.trn ht (fun f => f), h.cb.trn ht (fun f => f), h.sec, h.rest, h.trn.trans ht (fun _ _ f => f.elim)⟩
  · rintro i W hi ⟨s', B, hst⟩ hm1 hm2
    have hok := hst.dsk.okS
    have ha : 8 * n + i < secs s' := by rw [hst.sec]; omega
    have hBl := own_len hst.own
    have hri := readR_in hok ha
    have hnx := loadI_next (n := n) hi s' (B.take (512 * i))
    refine (load1_is W S d db bb rb (8 * n + i) (512 * i) s' B hst.dsk hst.cd hst.cb hst.own (fun h => by have := hS _ h; omega) (fun h => by have := hS _ h; omega) ha (by omega)).mono ?_
    rintro e w' ⟨rfl, hdk, hown, ht⟩
    have nk : ∀ k, w0.heap.size ≤ k → k ≠ rb → ¬ (S k ∨ k = rb) := fun k hk hne h => h.elim (fun h => by have := hS _ h; omega) hne
    have htr : Trn S w0 w' := hst.trn.trans ht (fun k hk h => h.elim id (fun e => by omega))
    refine ⟨_, rfl, by have := hri.2.2.1; omega, (ht.block _ (Array.getElem?_eq_some_iff.1 hm1).1 (nk _ hw (by omega))).trans hm1, (ht.block _ (Array.getElem?_eq_some_iff.1 hm2).1 (nk _ (by omega) (by omega))).trans hm2, fun e0 => ?_, fun e0 => ?_⟩
    · refine ⟨_, _, hdk, hown, hst.cd.trn ht (nk _ hdb.1 ?_), hst.cb.trn ht (nk _ hbb.1 ?_), hri.2.2.2.1.trans hst.sec, ?_, htr⟩
      · intro e
        have h1 := hst.cd
        obtain ⟨c2, h2⟩ := ownsRow_block hst.own (k := rb) rfl
        exact tag_ne h1 h2 (by decide) e
      · intro e
        have h1 := hst.cb
        obtain ⟨c2, h2⟩ := ownsRow_block hst.own (k := rb) rfl
        exact tag_ne h1 h2 (by decide) e
      · rw [hst.rest, hnx, if_pos e0, splice_next hBl (hri.1 e0) hi]
    · refine ⟨_, ?_, hdk, htr⟩
      rw [hst.rest, hnx, if_neg e0]
  · rintro i W j v ⟨s', B, hst⟩ hj
    refine ⟨s', B, hst.set (by omega) (fun h => by have := hS _ h; omega) (by omega) (by omega) (by omega)⟩
  · rintro i W j v ⟨s', h1, h2, h3⟩ hj
    exact ⟨s', h1, h2.trn (trn_set W j v) (fun k hk e => by have := hS _ hk; omega), h3.setCell _ (fun hlt => by omega)⟩
theorem own_up {w : World} {B g n c : Nat} {e : TypeId} {l : List UInt8} (h : Own w 0 e (.slice (some ⟨g, 0, none⟩) n c) l) (hg : B ≤ g) : Own w B e (.slice (some ⟨g, 0, none⟩) n c) l := by
  refine ⟨h.1, ?_⟩
  rcases h.2 with ⟨e, _⟩ | ⟨g', cap, cur, e, hb, hr⟩
  · cases e
  · simp at e
    obtain ⟨rfl, _⟩ := e
    exact .inr ⟨_, cap, cur, by simp [*], hg, hr⟩
theorem of_box {w : World} {v : Value} {t : TypeId} : One (w.alloc (.cells #[v] t)) w.heap.size v t := heap_alloc_new w _
set_option maxRecDepth 100000 in
set_option maxHeartbeats 2000000 in
theorem load_is (w : World) (S : Nat → Prop) (d : Nat) (s : St) (x : Int) (h : Dsk w S d s) :
    Calls Tryd.prog 76 #[.pointer (some ⟨d, 0, none⟩), .int .i64 x] w (Red w S d (loadP s x)) := by
  have hmf : ∀ (fn : Fn) (first cap : Array Value) (w : World), (Instr.makeFunc fn first cap).run Tryd.prog w = .ok (.func fn first cap) w := fun _ _ _ _ => rfl
  obtain ⟨i0, hi0, hz0, hz1, hz2⟩ := info_parts uinfo
  have H := Lib.hid h
  obtain ⟨w1, hw1⟩ : ∃ w1, w.alloc (.cells #[.pointer (some ⟨d, 0, none⟩)] 30) = w1 := ⟨_, rfl⟩
  have hb1 : Below w.heap.size w w1 := hw1 ▸ below_new w _
  have hs1 : w1.heap.size = w.heap.size + 1 := by rw [← hw1]; simp
  have o1 : One w1 w.heap.size (.pointer (some ⟨d, 0, none⟩)) 30 := hw1 ▸ of_box
  have c1 := o1.cell
  have HM := Lib.hid (missing_is w1 S d s x (h.below hb1))
  have HW1 := Lib.hid hw1
  have HB1 := Lib.hid hb1
  have HS1 := Lib.hid hs1
  have HO1 := Lib.hid o1
  clear h hb1 hs1 o1 hw1
  by_cases hx : 0 ≤ x ∧ x < ((secs s / 8 : Nat) : Int)
  · rw [if_pos hx] at HM
    obtain ⟨n, rfl⟩ := Int.eq_ofNat_of_zero_le hx.1
    have hn : n < secs s / 8 := by omega
    have hp : loadP s (n : Int) = loadI n 8 s [] := by unfold loadP; rw [if_pos hx, Int.toNat_natCast]
    rw [hp]
    have HN := Lib.hid hn
    clear hx hn hp
    generalize hQ : loadI n 8 s [] = r
    have HQ := Lib.hid hQ
    clear hQ
    go_enter Tryd.func76, Tryd.ntmps76
    go_wp2_with fail
    rw [HW1.out]
    go_wp2_with fail
    refine HM.out.mono ?_
    rintro e w2 ⟨rfl, rfl⟩
    go_wp2_with (at_make; refine wpList_make_full _ rfl _ _ 27 rfl w1.heap.size 5 i0 _ 1 Tryd.underlying27 hi0 hz0 hz1 _ _ _ _ 4096 rfl rfl rfl rfl (by rw [hz2]; omega) (by simp only [maxLen]; omega) (Nat.le_refl _) ?_; intro w3 hown3 hg3)
    have hb3 := below_none hg3
    have ho3 : Own w3 w1.heap.size 5 (.slice (some ⟨w1.heap.size, 0, none⟩) 4096 4096) (zsB 4096) := own_zeros hown3
    obtain ⟨w4, hw4⟩ : ∃ w4, w3.alloc (.cells #[.slice (some ⟨w1.heap.size, 0, none⟩) 4096 4096] 27) = w4 := ⟨_, rfl⟩
    have hb4 : Below w3.heap.size w3 w4 := hw4 ▸ below_new w3 _
    have hs4 : w4.heap.size = w3.heap.size + 1 := by rw [← hw4]; simp
    have o4 : One w4 w3.heap.size (.slice (some ⟨w1.heap.size, 0, none⟩) 4096 4096) 27 := hw4 ▸ of_box
    have hb14 : Below w1.heap.size w1 w4 := hb3.trans (hb4.mono hb3.size)
    have hb04 : Below w.heap.size w w4 := HB1.out.trans (hb14.mono HB1.out.size)
    have own4 : Own w4 w1.heap.size 5 (.slice (some ⟨w1.heap.size, 0, none⟩) 4096 4096) (zsB 4096) := own_trn ho3 (Trn.of_below hb4 : Trn (fun _ => False) w3 w4) (fun _ _ f => f)
    have hgt : w1.heap.size < w3.heap.size := by
      obtain ⟨c2, h2⟩ := ownsRow_block (ho3.lower (Nat.zero_le _)) (k := w1.heap.size) rfl
      exact (Array.getElem?_eq_some_iff.1 h2).1
    have cd4 : One w4 w.heap.size (.pointer (some ⟨d, 0, none⟩)) 30 := HO1.out.trn (Trn.of_below hb14 : Trn (fun _ => False) w1 w4) (fun f => f)
    have hst : LoadSt w S d w.heap.size w3.heap.size w1.heap.size n s 0 w4 s (zsB 4096) := ⟨H.out.below hb04, own4.lower (Nat.zero_le _), cd4, o4, rfl, by simp, Trn.of_below hb04⟩
    have hs1 := HS1.out
    have HT := Lib.hid (load_through w w4 S d _ _ _ n s HN.out H.out.ok.few hst hb04.size H.out.lt ⟨Nat.le_refl _, by omega⟩ ⟨by omega, by omega⟩ ⟨by omega, by omega⟩)
    have HSZ := Lib.hid hs1
    clear hs1 hst cd4 hgt own4 hb04 hb14 o4 hs4 hb4 ho3 hb3 hown3 hg3
    rw [hw4]
    clear hw4 HW1
    refine HT.out.mono ?_
    rintro e w5 (⟨rfl, s', B, hst5⟩ | ⟨er, her, rfl, s', hl, hdk, ht⟩)
    · have cb := hst5.cb.cell
      have HST := Lib.hid hst5
      clear hst5
      go_wp2_with fail
      go_ret2
      rw [← HQ.out]
      have hrest := HST.out.rest
      rw [Nat.sub_self, loadI, List.take_of_length_le (by have := own_len HST.out.own; omega)] at hrest
      rw [hrest]
      exact ⟨_, rfl, own_up HST.out.own (by have := HSZ.out; omega), HST.out.dsk, HST.out.trn⟩
    · have hne : ((er : Int) != 0) = true := by simp only [bne, beq_eq_false_iff_ne, Bool.not_eq_true', ne_eq]; omega
      have HL := Lib.hid hl
      have HD := Lib.hid hdk
      have HTR := Lib.hid ht
      clear hl hdk ht her
      go_wp2_with fail
      go_ret2
      rw [← HQ.out, HL.out]
      exact ⟨_, rfl, World.ownsRow_nil _ _ _ 1, HD.out, HTR.out⟩
  · rw [if_neg hx] at HM
    have hp : loadP s x = ([], 2, s) := by unfold loadP; rw [if_neg hx]
    rw [hp]
    clear hx hp
    generalize hQ : (([], 2, s) : List UInt8 × Nat × St) = r
    have HQ := Lib.hid hQ
    clear hQ
    go_enter Tryd.func76, Tryd.ntmps76
    go_wp2_with fail
    rw [HW1.out]
    go_wp2_with fail
    refine HM.out.mono ?_
    rintro e w2 ⟨rfl, rfl⟩
    go_wp2_with fail
    go_ret2
    rw [← HQ.out]
    exact ⟨_, rfl, World.ownsRow_nil _ _ _ 1, H.out.below HB1.out, Trn.of_below HB1.out⟩
theorem load_nil (w : World) (x : Int) : Calls Tryd.prog 76 #[.pointer none, .int .i64 x] w fun e w' => e = .returned (.tuple #[.slice none 0 0, .int .i64 1]) ∧ Below w.heap.size w w' := by
  obtain ⟨w1, hw1⟩ : ∃ w1, w.alloc (.cells #[.pointer none] 30) = w1 := ⟨_, rfl⟩
  have c1 := (show One w1 w.heap.size (.pointer none) 30 from hw1 ▸ of_box).cell
  have HB1 : Hid (Below w.heap.size w w1) := hw1 ▸ below_new w _
  have HW1 := Lib.hid hw1
  clear hw1
  go_enter Tryd.func76, Tryd.ntmps76
  go_wp2_with fail
  rw [HW1.out]
  go_wp2_with fail
  refine (missing_nil w1 x).mono ?_
  rintro e w2 ⟨rfl, rfl⟩
  go_wp2_with fail
  go_ret2
  exact ⟨rfl, HB1.out⟩
end Go.Proofs.YtknagdbhhfelnaaDoor

/-
  Package page over sectors: Save by its contract. Conditions: none but that the disk and the bytes lie there, apart.
-/
namespace Go.Proofs.YtknagdbhhfelnaaDoor
open Go.RowKit Go.Maps
set_option maxRecDepth 100000

def partB (b : List UInt8) (i : Nat) : List UInt8 := (b.drop (512 * i)).take 512
theorem partB_len {b : List UInt8} {i : Nat} (hb : b.length = 4096) (hi : i < 8) : (partB b i).length = 512 := by unfold partB; rw [List.length_take, List.length_drop]; omega
/-- A page's sectors written, k of them left. -/
def saveI (n : Nat) (b : List UInt8) : Nat → St → Nat × St
  | 0, s => (0, s)
  | k + 1, s => if (writeR s ((8 * n + (7 - k) : Nat) : Int) (partB b (7 - k))).1 = 0 then saveI n b k (writeR s ((8 * n + (7 - k) : Nat) : Int) (partB b (7 - k))).2 else writeR s ((8 * n + (7 - k) : Nat) : Int) (partB b (7 - k))
def saveP (s : St) (x : Int) (b : List UInt8) : Nat × St := if (0 ≤ x ∧ x < ((secs s / 8 : Nat) : Int)) ∧ b.length = 4096 then saveI x.toNat b 8 s else (2, s)
theorem saveI_next {n i : Nat} {b : List UInt8} (hi : i < 8) (s : St) : saveI n b (8 - i) s = if (writeR s ((8 * n + i : Nat) : Int) (partB b i)).1 = 0 then saveI n b (8 - (i + 1)) (writeR s ((8 * n + i : Nat) : Int) (partB b i)).2 else writeR s ((8 * n + i : Nat) : Int) (partB b i) := by
  rw [show 8 - i = (7 - i) + 1 by omega, saveI, show 7 - (7 - i) = i by omega, show 8 - (i + 1) = 7 - i by omega]
theorem writeR_in (s : St) (x : Int) (l : List UInt8) : (writeR s x l).1 ≤ 8 ∧ secs (writeR s x l).2 = secs s := by
  unfold writeR
  split
  · split
    · exact ⟨by omega, rfl⟩
    · exact ⟨by omega, rfl⟩
  · exact ⟨by omega, rfl⟩
theorem cut_block {A : Option Addr} {n c k n1 c1 : Nat} {P : Prop} [Decidable P] : ∀ j, (Value.slice (if P then A else A.map (·.add k)) n1 c1).ownBlock = some j → (Value.slice A n c).ownBlock = some j := by
  intro j
  cases A <;> split <;> simp [Value.ownBlock, Addr.add]
  split <;> exact id
theorem Byt.midrunO {w : World} {A : Option Addr} {n c : Nat} {l : List UInt8} (h : Byt w (.slice A n c) l) (a b : Nat) (hab : a ≤ b) (hb : b ≤ n) :
    ∃ A1 n1 c1, (∀ W, (Instr.slice 27 (.slice A n c) (some (.int .i64 (a : Int))) (some (.int .i64 (b : Int))) none).run Tryd.prog W = .ok (.slice A1 n1 c1) W) ∧ Byt w (.slice A1 n1 c1) ((l.drop a).take (b - a)) ∧ (∀ j, (Value.slice A1 n1 c1).ownBlock = some j → (Value.slice A n c).ownBlock = some j) := by
  have h1 := h.cut (k := a) (by omega)
  have h2 := h1.upto (k := b - a) (by omega)
  have hln : l.length = n ∧ n ≤ c := by obtain ⟨_, _, hv, h9, _⟩ := h; injection hv with _ e e9; subst e9; exact ⟨e.symm, by omega⟩
  refine ⟨_, b - a, _, fun W => ?_, h2, cut_block⟩
  rw [run_slice_lh W 27 _ n c elemByte .i64 .i64 _ _ (by omega) (by omega) (by omega), sizeByte]
  simp [Result.andThen, sliced]
set_option maxRecDepth 100000 in
set_option maxHeartbeats 2000000 in
/-- The closure that Save hands to through. -/
theorem save1_is (w : World) (S : Nat → Prop) (d db bb a pt : Nat) (s : St) (A : Option Addr) (c : Nat) (l : List UInt8) (h : Dsk w S d s) (hd : One w db (.pointer (some ⟨d, 0, none⟩)) 30) (hb : One w bb (.slice A 4096 c) 27)
    (hv : Byt w (.slice A 4096 c) l) (hne : ∀ k, (Value.slice A 4096 c).ownBlock = some k → ¬ S k) (hdb : ¬ S db) (hbb : ¬ S bb) (hpt : pt + 512 ≤ 4096) :
    Calls Tryd.prog 86 #[.int .i64 (a : Int), .int .i64 (pt : Int), .pointer (some ⟨db, 0, none⟩), .pointer (some ⟨bb, 0, none⟩)] w (Done w S d (writeR s (a : Int) ((l.drop pt).take 512))) := by
  obtain ⟨A1, n1, c1, hcut, hby, hob⟩ := hv.midrunO pt (pt + 512) (by omega) hpt
  rw [show ((pt + 512 : Nat) : Int) = (pt : Int) + 512 by omega] at hcut
  have hwp : IntKind.i64.wrap ((pt : Int) + 512) = (pt : Int) + 512 := by rw [IntKind.wrap_i64]; omega
  rw [Nat.add_sub_cancel_left] at hby
  have htd : Trn S w w.drew := (Trn.refl S w).drew
  have HD := Lib.hid (hd.trn htd hdb)
  have HB := Lib.hid (hb.trn htd hbb)
  have HND := Lib.hid hdb
  have HNB := Lib.hid hbb
  have HWR := Lib.hid (write_any w.drew S d s (a : Int) (.slice A1 n1 c1) _ (h.below (Below.refl _ _).drew) (hby.below (Below.refl _ _).drew) (fun k e => hne k (hob k e)))
  generalize writeR s (a : Int) ((l.drop pt).take 512) = r at *
  have HDN : Hid (∀ e w', Done w.drew S d r e w' → Done w S d r e w') := fun e w' h => ⟨h.1, h.2.1, htd.trans h.2.2 (fun _ _ h => h)⟩
  clear h hd hb hv hne hdb hbb hby hob htd
  go_enter Tryd.func86, Tryd.ntmps86
  go_wp2_with fail
  refine wp_region_R (R := fun x y => Trn S x y) (by kernel_rfl) (fun _ => Trn.refl _ _) (fun h k => h.trans k (fun _ _ h => h)) (by kernel_rfl) (fun d v c a w h => by cases d <;> exact h)
    [(0, false), (1, false), (2, false), (3, false), (4, false), (5, false), (6, false), (7, true), (8, false)] rfl (by kernel_rfl) (by kernel_rfl) ?_
  simp only [sel, List.getElem?_toArray, List.getElem?_cons_succ, List.getElem?_cons_zero]
  generalize w.drew = wd at *
  (refine sch_take ?_ rfl ?_ ?_; rotate_left; (focus (intro u hu; have c1 := (HD.out.trn hu HND.out).cell; clear hu; go_simp <;> rfl)); simp only [Act.put, List.setIfInBounds_toArray, List.set_cons_zero, List.set_cons_succ])
  (refine sch_take ?_ rfl ?_ ?_; rotate_left; (focus (intro u hu; go_simp <;> rfl)); simp only [Act.put, List.setIfInBounds_toArray, List.set_cons_zero, List.set_cons_succ])
  (refine sch_take ?_ rfl ?_ ?_; rotate_left; (focus (intro u hu; have c1 := (HB.out.trn hu HNB.out).cell; clear hu; go_simp <;> rfl)); simp only [Act.put, List.setIfInBounds_toArray, List.set_cons_zero, List.set_cons_succ])
  iterate 4 (refine sch_take ?_ rfl ?_ ?_; rotate_left; (focus (intro u hu; go_simp <;> rfl)); simp only [Act.put, List.setIfInBounds_toArray, List.set_cons_zero, List.set_cons_succ])
  refine sch_call rfl ?_
  intro K hK
  go_simp
  refine (HWR.out).mono ?_
  rintro e w4 hdn; obtain ⟨rfl, hdk4, ht4⟩ := id hdn
  go_wp2_with fail
  refine hK _ _ ht4 ?_
  clear hK K
  have HDD := Lib.hid (HDN.out _ _ hdn)
  clear hdn hdk4 ht4
  (refine sch_take ?_ rfl ?_ ?_; rotate_left; (focus (intro u hu; go_simp <;> rfl)); simp only [Act.put, List.setIfInBounds_toArray, List.set_cons_zero, List.set_cons_succ])
  refine sch_nil ?_
  go_wp2_with fail
  go_ret
  exact HDD.out
theorem enterS1 : ∀ args W, (callFunc 86 args).run Tryd.prog W = .ok (.enter 86 args) W := fun _ _ => rfl
/-- Save under way: i sectors are written. -/
structure SaveSt (w0 : World) (S S' : Nat → Prop) (d db bb n : Nat) (x0 x1 : Nat) (s : St) (A : Option Addr) (c : Nat) (b : List UInt8) (i : Nat) (W : World) (s' : St) : Prop where
  dsk : Dsk W S' d s'
  foot : ∀ k, S' k → S k ∨ x1 ≤ k
  cd : One W db (.pointer (some ⟨d, 0, none⟩)) 30
  cb : One W bb (.slice A 4096 c) 27
  byt : Byt W (.slice A 4096 c) b
  sec : secs s' = secs s
  rest : saveI n b 8 s = saveI n b (8 - i) s'
  trn : Trn S w0 W
def SaveJ (w0 : World) (S : Nat → Prop) (d n x1 : Nat) (s : St) (b : List UInt8) (er : Nat) (W : World) : Prop := ∃ S' s', saveI n b 8 s = (er, s') ∧ Dsk W S' d s' ∧ (∀ k, S' k → S k ∨ x1 ≤ k) ∧ Trn S w0 W
theorem byt_set {W : World} {A : Option Addr} {n c j : Nat} {v : Value} {l : List UInt8} (h : Byt W (.slice A n c) l) (hne : ∀ k, (Value.slice A n c).ownBlock = some k → k ≠ j) : Byt (W.setCell ⟨j, 0, none⟩ v) (.slice A n c) l := h.trn (trn_set W j v) hne
theorem save_through (w0 w : World) (S : Nat → Prop) (d db bb n : Nat) (s : St) (A : Option Addr) (c : Nat) (b : List UInt8) (hn : n < secs s / 8) (hs8 : secs s ≤ 32768) (h : Dsk w S d s) (hcd : One w db (.pointer (some ⟨d, 0, none⟩)) 30) (hcb : One w bb (.slice A 4096 c) 27)
    (hby : Byt w (.slice A 4096 c) b) (hne : ∀ k, (Value.slice A 4096 c).ownBlock = some k → ¬ S k ∧ k < w.heap.size) (htr : Trn S w0 w) (hS : ∀ k, S k → k < w0.heap.size) (hdb : w0.heap.size ≤ db ∧ db < w.heap.size) (hbb : w0.heap.size ≤ bb ∧ bb < w.heap.size) :
    Calls Tryd.prog 85 #[.int .i64 (n : Int), .func (.func 86) #[] #[.pointer (some ⟨db, 0, none⟩), .pointer (some ⟨bb, 0, none⟩)]] w (ThPost (fun i W => ∃ S' s', SaveSt w0 S S' d db bb n w0.heap.size (w.heap.size + 2) s A c b i W s') (SaveJ w0 S d n (w.heap.size + 2) s b)) := by
  have hw := htr.size
  refine through_any w n _ _ _ _ (by omega) enterS1 ?_ ?_ ?_ ?_
  · intro W hb _
    have ht : Trn (fun _ => False) w W := Trn.of_below hb
    exact ⟨S, s, h.below hb, fun k hk => .inl hk, hcd.trn ht (fun f => f), hcb.trn ht (fun f => f), hby.below hb, rfl, rfl, htr.trans ht (fun _ _ f => f.elim)⟩
  · rintro i W hi ⟨S', s', hst⟩ hm1 hm2
    have hW1 : w.heap.size + 1 < W.heap.size := (Array.getElem?_eq_some_iff.1 hm2).1
    have nk : ∀ k, w0.heap.size ≤ k → k < w.heap.size + 2 → ¬ S' k := fun k h1 h2 h => (hst.foot k h).elim (fun h => by have := hS _ h; omega) (fun h => by omega)
    have nb : ∀ k, (Value.slice A 4096 c).ownBlock = some k → ¬ S' k := fun k e h => (hst.foot k h).elim (hne k e).1 (fun h => by have := (hne k e).2; omega)
    have hnx := saveI_next (n := n) (b := b) hi s'
    have hwi := writeR_in s' ((8 * n + i : Nat) : Int) (partB b i)
    refine (save1_is W S' d db bb (8 * n + i) (512 * i) s' A c b hst.dsk hst.cd hst.cb hst.byt nb (nk _ hdb.1 (by omega)) (nk _ hbb.1 (by omega)) (by omega)).mono ?_
    rintro e w' ⟨rfl, hdk, ht⟩
    rw [show (b.drop (512 * i)).take 512 = partB b i from rfl] at *
    have hfoot : ∀ k, more S' W w' k → S k ∨ w.heap.size + 2 ≤ k := fun k hk => hk.elim (hst.foot k) (fun h => .inr (by omega))
    have htr' : Trn S w0 w' := hst.trn.trans ht (fun k hk h => (hst.foot k h).elim id (fun e => by omega))
    refine ⟨_, rfl, by have := hwi.1; omega, (ht.block _ (Array.getElem?_eq_some_iff.1 hm1).1 (nk _ hw (by omega))).trans hm1, (ht.block _ (Array.getElem?_eq_some_iff.1 hm2).1 (nk _ (by omega) (by omega))).trans hm2, fun e0 => ?_, fun e0 => ?_⟩
    · refine ⟨_, _, hdk, hfoot, hst.cd.trn ht (nk _ hdb.1 (by omega)), hst.cb.trn ht (nk _ hbb.1 (by omega)), hst.byt.trn ht nb, hwi.2.trans hst.sec, ?_, htr'⟩
      rw [hst.rest, hnx, if_pos e0]
    · refine ⟨_, _, ?_, hdk, hfoot, htr'⟩
      rw [hst.rest, hnx, if_neg e0]
  · rintro i W j v ⟨S', s', hst⟩ hj
    have nj : ¬ S' j := fun h => (hst.foot j h).elim (fun h => by have := hS _ h; omega) (fun h => by omega)
    exact ⟨S', s', hst.dsk.trn (trn_set W j v) (fun k hk e => nj (e ▸ hk)), hst.foot, hst.cd.trn (trn_set W j v) (by omega), hst.cb.trn (trn_set W j v) (by omega), byt_set hst.byt (fun k e => by have := (hne k e).2; omega), hst.sec, hst.rest, hst.trn.setCell _ (fun hlt => by omega)⟩
  · rintro i W j v ⟨S', s', h1, h2, h3, h4⟩ hj
    have nj : ¬ S' j := fun h => (h3 j h).elim (fun h => by have := hS _ h; omega) (fun h => by omega)
    exact ⟨S', s', h1, h2.trn (trn_set W j v) (fun k hk e => nj (e ▸ hk)), h3, h4.setCell _ (fun hlt => by omega)⟩
theorem foot_more {w0 w' : World} {S S' : Nat → Prop} {d x1 : Nat} {s : St} (h : Dsk w' S' d s) (hf : ∀ k, S' k → S k ∨ x1 ≤ k) (hx : w0.heap.size ≤ x1) (hS : ∀ k, S k → k < w0.heap.size) (hw : w0.heap.size ≤ w'.heap.size) : Dsk w' (more S w0 w') d s :=
  h.wide (fun k hk => (hf k hk).elim .inl (fun e => .inr ⟨by omega, h.lt k hk⟩)) (more_lt hw hS)
set_option maxRecDepth 100000 in
set_option maxHeartbeats 2000000 in
theorem save_is (w : World) (S : Nat → Prop) (d : Nat) (s : St) (x : Int) (v : Value) (b : List UInt8) (h : Dsk w S d s) (hv : Byt w v b) (hne : ∀ k, v.ownBlock = some k → ¬ S k) (hlo : ∀ k, v.ownBlock = some k → k < w.heap.size) :
    Calls Tryd.prog 71 #[.pointer (some ⟨d, 0, none⟩), .int .i64 x, v] w (Done w S d (saveP s x b)) := by
  have hmf : ∀ (fn : Fn) (first cap : Array Value) (w : World), (Instr.makeFunc fn first cap).run Tryd.prog w = .ok (.func fn first cap) w := fun _ _ _ _ => rfl
  obtain ⟨A, m, c, rfl, N, hnc, hcm⟩ := hv.form
  obtain ⟨wa, hwa⟩ : ∃ wa, w.alloc (.cells #[.pointer (some ⟨d, 0, none⟩)] 30) = wa := ⟨_, rfl⟩
  obtain ⟨w1, hw1⟩ : ∃ w1, wa.alloc (.cells #[.slice A m c] 27) = w1 := ⟨_, rfl⟩
  have hba : Below w.heap.size w wa := hwa ▸ below_new w _
  have hb1 : Below wa.heap.size wa w1 := hw1 ▸ below_new wa _
  have hb : Below w.heap.size w w1 := hba.trans (hb1.mono hba.size)
  have hsa : wa.heap.size = w.heap.size + 1 := by rw [← hwa]; simp
  have hs1 : w1.heap.size = w.heap.size + 2 := by rw [← hw1]; simp [hsa]
  have oa : One w1 w.heap.size (.pointer (some ⟨d, 0, none⟩)) 30 := (hwa ▸ of_box : One wa w.heap.size (.pointer (some ⟨d, 0, none⟩)) 30).trn (Trn.of_below hb1 : Trn (fun _ => False) wa w1) (fun f => f)
  have ob : One w1 (w.heap.size + 1) (.slice A m c) 27 := by
    have := (hw1 ▸ of_box : One w1 wa.heap.size (.slice A m c) 27)
    rw [hsa] at this
    exact this
  have c1 := oa.cell
  have c2 := ob.cell
  have HW1 : Hid ((w.alloc (.cells #[.pointer (some ⟨d, 0, none⟩)] 30)).alloc (.cells #[.slice A m c] 27) = w1) := by rw [Hid, hwa, hw1]
  have HB1 := Lib.hid hb
  have HS1 := Lib.hid hs1
  have HOA := Lib.hid oa
  have HOB := Lib.hid ob
  have HV := Lib.hid hv
  have HM := Lib.hid (missing_is w1 S d s x (h.below hb))
  have H := Lib.hid h
  have HNE := Lib.hid hne
  have HLO := Lib.hid hlo
  clear h hv hne hlo hw1 hwa hba hb1 hb hsa hs1 oa ob
  by_cases hx : 0 ≤ x ∧ x < ((secs s / 8 : Nat) : Int)
  · rw [if_pos hx] at HM
    by_cases hl : b.length = 4096
    · obtain ⟨n, rfl⟩ := Int.eq_ofNat_of_zero_le hx.1
      have hn : n < secs s / 8 := by omega
      have hp : saveP s (n : Int) b = saveI n b 8 s := by unfold saveP; rw [if_pos ⟨hx, hl⟩, Int.toNat_natCast]
      rw [hp]
      have HN := Lib.hid hn
      obtain rfl : m = 4096 := N.out.trans hl
      clear hx hn hp hl
      generalize hQ : saveI n b 8 s = r
      have HQ := Lib.hid hQ
      clear hQ
      go_enter Tryd.func71, Tryd.ntmps71
      go_wp2_with fail
      rw [HW1.out]
      go_wp2_with fail
      refine HM.out.mono ?_
      rintro e w2 ⟨rfl, rfl⟩
      go_wp2_with fail
      have HT := Lib.hid (save_through w w1 S d w.heap.size (w.heap.size + 1) n s A c b HN.out H.out.ok.few (H.out.below HB1.out) HOA.out HOB.out (HV.out.below HB1.out) (fun k e => ⟨HNE.out k e, by have := HLO.out k e; have := HB1.out.size; omega⟩) (Trn.of_below HB1.out) H.out.lt ⟨Nat.le_refl _, by have := HS1.out; omega⟩ ⟨by omega, by have := HS1.out; omega⟩)
      refine HT.out.mono ?_
      rintro e w5 (⟨rfl, S', s', hst⟩ | ⟨er, her, rfl, S', s', hl, hdk, hf, ht⟩)
      · have HST := Lib.hid hst
        clear hst
        go_wp2_with fail
        go_ret
        have hrest := HST.out.rest
        rw [Nat.sub_self, saveI] at hrest
        rw [← HQ.out, hrest]
        exact ⟨rfl, foot_more HST.out.dsk HST.out.foot (by have := HB1.out.size; omega) H.out.lt HST.out.trn.size, HST.out.trn⟩
      · have HLL := Lib.hid hl
        have HDK := Lib.hid hdk
        have HF := Lib.hid hf
        have HTR := Lib.hid ht
        clear hl hdk hf ht her
        go_wp2_with fail
        go_ret
        rw [← HQ.out, HLL.out]
        exact ⟨rfl, foot_more HDK.out HF.out (by have := HB1.out.size; omega) H.out.lt HTR.out.size, HTR.out⟩
    · have hp : saveP s x b = (2, s) := by unfold saveP; rw [if_neg (fun h => hl h.2)]
      rw [hp]
      have hm : ((m : Int) != 4096) = true := by have := N.out; simp only [bne, beq_eq_false_iff_ne, Bool.not_eq_true', ne_eq]; omega
      clear hx hp hl N
      go_enter Tryd.func71, Tryd.ntmps71
      go_wp2_with fail
      rw [HW1.out]
      go_wp2_with fail
      refine HM.out.mono ?_
      rintro e w2 ⟨rfl, rfl⟩
      go_wp2_with fail
      go_ret
      exact ⟨rfl, (H.out.below HB1.out).more HB1.out.size H.out.lt, Trn.of_below HB1.out⟩
  · rw [if_neg hx] at HM
    have hp : saveP s x b = (2, s) := by unfold saveP; rw [if_neg (fun h => hx h.1)]
    rw [hp]
    clear hx hp N
    go_enter Tryd.func71, Tryd.ntmps71
    go_wp2_with fail
    rw [HW1.out]
    go_wp2_with fail
    refine HM.out.mono ?_
    rintro e w2 ⟨rfl, rfl⟩
    go_wp2_with fail
    go_ret
    exact ⟨rfl, (H.out.below HB1.out).more HB1.out.size H.out.lt, Trn.of_below HB1.out⟩
theorem save_nil (w : World) (x : Int) (v : Value) (b : List UInt8) (hv : Byt w v b) : Calls Tryd.prog 71 #[.pointer none, .int .i64 x, v] w fun e w' => e = .returned (.int .i64 1) ∧ Below w.heap.size w w' := by
  obtain ⟨A, m, c, rfl, N, hnc, hcm⟩ := hv.form
  obtain ⟨wa, hwa⟩ : ∃ wa, w.alloc (.cells #[.pointer none] 30) = wa := ⟨_, rfl⟩
  obtain ⟨w1, hw1⟩ : ∃ w1, wa.alloc (.cells #[.slice A m c] 27) = w1 := ⟨_, rfl⟩
  have hba : Below w.heap.size w wa := hwa ▸ below_new w _
  have hb1 : Below wa.heap.size wa w1 := hw1 ▸ below_new wa _
  have hb : Below w.heap.size w w1 := hba.trans (hb1.mono hba.size)
  have hsa : wa.heap.size = w.heap.size + 1 := by rw [← hwa]; simp
  have hs1 : w1.heap.size = w.heap.size + 2 := by rw [← hw1]; simp [hsa]
  have oa : One w1 w.heap.size (.pointer none) 30 := (hwa ▸ of_box : One wa w.heap.size (.pointer none) 30).trn (Trn.of_below hb1 : Trn (fun _ => False) wa w1) (fun f => f)
  have ob : One w1 (w.heap.size + 1) (.slice A m c) 27 := by
    have := (hw1 ▸ of_box : One w1 wa.heap.size (.slice A m c) 27)
    rw [hsa] at this
    exact this
  have c1 := oa.cell
  have c2 := ob.cell
  have HW1 : Hid ((w.alloc (.cells #[.pointer none] 30)).alloc (.cells #[.slice A m c] 27) = w1) := by rw [Hid, hwa, hw1]
  have HB1 := Lib.hid hb
  have HS1 := Lib.hid hs1
  have HOA := Lib.hid oa
  have HOB := Lib.hid ob
  have HM := Lib.hid (missing_nil w1 x)
  clear hv hw1 hwa hba hb1 hb hsa hs1 oa ob N
  go_enter Tryd.func71, Tryd.ntmps71
  go_wp2_with fail
  rw [HW1.out]
  go_wp2_with fail
  refine HM.out.mono ?_
  rintro e w2 ⟨rfl, rfl⟩
  go_wp2_with fail
  go_ret
  exact ⟨rfl, HB1.out⟩
end Go.Proofs.YtknagdbhhfelnaaDoor

