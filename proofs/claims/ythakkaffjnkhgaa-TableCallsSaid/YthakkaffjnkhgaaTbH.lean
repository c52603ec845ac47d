/-
  Package table's Read by its contract. Conditions: the bytes are fewer than 2^46.
-/
import Derived.Test.YthakkaffjnkhgaaTbG
namespace Go.Proofs.Ythakkaffjnkhgaa
open Go.RowKit Go.Maps
set_option maxRecDepth 100000
set_option linter.unusedVariables false
set_option linter.unusedSimpArgs false

/-- A reader's End, whatever its state. -/
def endZ (l : List UInt8) (e : Nat) : Nat := if e ≠ 0 then e else if l = [] then 0 else 4
theorem endz_any (w : World) (g e : Nat) (l : List UInt8) (hr : Rdr w g l e) :
    Calls Try.prog 38 #[.pointer (some ⟨g, 0, none⟩)] w (Told w g .i64 (endZ l e) l (endZ l e)) := by
  unfold endZ
  by_cases he : e ≠ 0
  · rw [if_pos he]
    exact end_err w g e l hr he
  · rw [if_neg he]
    obtain rfl : e = 0 := by omega
    by_cases hl : l = []
    · subst hl
      rw [if_pos rfl]
      exact end_ok w g hr
    · rw [if_neg hl]
      exact end_bad w g l hr (List.length_pos_iff.2 hl)
theorem uptoB_le (l : List UInt8) (e most : Nat) : (uptoB l e most).1 ≤ most := by
  unfold uptoB
  split
  · simp
  · split
    · simp
    · split
      · simp
      · simp; omega
/-- The first k numbers, what is left, the error. -/
def rdsT (l : List UInt8) (e : Nat) : Nat → List Int × List UInt8 × Nat
  | 0 => ([], l, e)
  | k + 1 => ((rdsT l e k).1 ++ [((uptoB (rdsT l e k).2.1 (rdsT l e k).2.2 4095).1 : Int)], (uptoB (rdsT l e k).2.1 (rdsT l e k).2.2 4095).2.1, (uptoB (rdsT l e k).2.1 (rdsT l e k).2.2 4095).2.2)
theorem rdsT_len (l : List UInt8) (e k : Nat) : (rdsT l e k).1.length = k := by
  induction k with
  | zero => rfl
  | succ k ih => simp [rdsT, ih]
theorem rdsT_in (l : List UInt8) (e k : Nat) : ∀ j, 0 ≤ atZ (rdsT l e k).1 j ∧ atZ (rdsT l e k).1 j ≤ 4095 := by
  induction k with
  | zero => intro j; simp [rdsT, atZ]
  | succ k ih =>
    intro j
    by_cases h : j < k
    · have : atZ (rdsT l e (k + 1)).1 j = atZ (rdsT l e k).1 j := atZ_app (by rw [rdsT_len]; exact h)
      rw [this]
      exact ih j
    · by_cases e' : j = k
      · subst e'
        rw [atZ_lt (by rw [rdsT_len]; omega)]
        simp only [rdsT]
        rw [List.getElem_append_right (by rw [rdsT_len]; omega)]
        have := uptoB_le (rdsT l e j).2.1 (rdsT l e j).2.2 4095
        simp [rdsT_len]
        omega
      · rw [atZ_ge (by rw [rdsT_len]; omega)]
        omega
def readZ (b : List UInt8) : List Int × List UInt8 × Nat := rdsT (uptoB b 0 65536).2.1 (uptoB b 0 65536).2.2 (uptoB b 0 65536).1
def readTb (b : List UInt8) : List Int × Int := if endZ (readZ b).2.1 (readZ b).2.2 = 0 ∧ tbOk (readZ b).1 then ((readZ b).1, 0) else ([], 4)
theorem readZ_len (b : List UInt8) : (readZ b).1.length ≤ 65536 := by
  unfold readZ
  rw [rdsT_len]
  exact uptoB_le _ _ _
def fillZ (l : List UInt8) (e N k : Nat) : List Int := (rdsT l e k).1 ++ List.replicate (N - k) 0
theorem fillZ_len {l : List UInt8} {e N k : Nat} (h : k ≤ N) : (fillZ l e N k).length = N := by simp [fillZ, rdsT_len]; omega
theorem fillZ_set {l : List UInt8} {e N k : Nat} (h : k < N) : (fillZ l e N k).set k ((uptoB (rdsT l e k).2.1 (rdsT l e k).2.2 4095).1 : Int) = fillZ l e N (k + 1) := by
  unfold fillZ
  rw [List.set_append_right _ _ (by rw [rdsT_len]; exact Nat.le_refl _), rdsT_len, Nat.sub_self, show N - k = (N - (k + 1)) + 1 by omega, List.replicate_succ, List.set_cons_zero]
  simp [rdsT]
theorem Rdr.keepN {w w' : World} {g e k : Nat} {l : List UInt8} (h : Rdr w g l e) (hne : g ≠ k) (hg : w.grownBy w' (some k)) (hno : ¬ ∃ off u, w.cell? ⟨k, off, none⟩ = some (.int .u8 u)) : Rdr w' g l e := by
  have hlt := h.lt
  obtain ⟨A, c, h1, h2⟩ := h
  refine ⟨A, c, (hg.block g hlt (by rintro ⟨rfl⟩; exact hne rfl)).trans h1, h2.keep hg.size (fun b' hlt' hex => hg.block b' hlt' (by
    intro e
    cases e
    exact hno hex))⟩
theorem TbBox.noByte {w : World} {g n c : Nat} {A : Option Addr} (h : TbBox w g (.slice A n c)) : ¬ ∃ off u, w.cell? ⟨g, off, none⟩ = some (.int .u8 u) := by
  rintro ⟨off, u, hc⟩
  have hS : w.heap[g]? = some (.cells [Value.slice A n c].toArray 24 (0, 0)) := h
  rw [cell_of_row _ _ _ _ _ _ hS] at hc
  match off, hc with
  | 0, hc => simp at hc
  | n + 1, hc => simp at hc
theorem OwnV.noByte {w : World} {B r n : Nat} {zs : List Int} (h : OwnV w B 3 (.slice (some ⟨r, 0, none⟩) n n) (intC zs)) (hl : zs.length = n) : ¬ ∃ off u, w.cell? ⟨r, off, none⟩ = some (.int .u8 u) := by
  rintro ⟨off, u, hc⟩
  by_cases ho : off < n
  · have := own_at h (by rw [intC_len]; exact hl) ho
    rw [this, intC_at] at hc
    simp at hc
  · rcases h.2 with ⟨e, _⟩ | ⟨g', cap, cur, e, _, hgg, hl1, hl2, hl3, hl4⟩
    · cases e
    · injection e with e1 e2 e3
      injection e1 with e1
      injection e1 with e1 _ _
      subst e1
      rw [cell_of_row _ _ _ _ _ _ hgg] at hc
      rw [Array.getElem?_eq_none (by omega)] at hc
      cases hc
structure RdTb (w : World) (bx g r N : Nat) (l : List UInt8) (e k : Nat) (wr : World) : Prop where
  res : TbBox wr w.heap.size (.slice none 0 0)
  box : TbBox wr bx (.slice (some ⟨r, 0, none⟩) N N)
  own : OwnV wr r 3 (.slice (some ⟨r, 0, none⟩) N N) (intC (fillZ l e N k))
  rd : Rdr wr g (rdsT l e k).2.1 (rdsT l e k).2.2
  bel : Below w.heap.size w wr
def RdTbL (w : World) (bx g r N : Nat) (l : List UInt8) (e : Nat) (i : Value) (wr : World) : Prop := ∃ k : Nat, k ≤ N ∧ i = .int .i64 (k : Int) ∧ RdTb w bx g r N l e k wr
set_option maxRecDepth 100000 in
set_option maxHeartbeats 4000000 in
theorem tread_any (w : World) (v : Value) (b : List UInt8) (hv : Byt w v b) (hlen : b.length ≤ 70368744177664) :
    Calls Try.prog 10 #[v] w (TbOut w (readTb b)) := by
  obtain ⟨i0, hi0, hz0, hz1, hz2⟩ := info_parts iinfo
  obtain ⟨w0, hw0⟩ : ∃ w0, w.alloc (.cells #[.slice none 0 0] 24) = w0 := ⟨_, rfl⟩
  have HR0 : Hid (TbBox w0 w.heap.size (.slice none 0 0)) := hw0 ▸ SBox.new w 24 [.slice none 0 0]
  have HB0 : Hid (Below w.heap.size w w0) := hw0 ▸ below_new w _
  have HW0 := Lib.hid hw0
  have HNW := Lib.hid (new_any w0 v b (hv.below HB0.out) hlen)
  have HZ0 : Hid (w0.heap.size = w.heap.size + 1) := by rw [Hid, ← hw0]; simp
  have HUP : Hid (∀ W g l e, Rdr W g l e → Calls Try.prog 37 #[.pointer (some ⟨g, 0, none⟩), .int .u64 4095] W (Told W g .u64 (uptoB l e 4095).1 (uptoB l e 4095).2.1 (uptoB l e 4095).2.2)) := fun W g l e h => upto_is W g e 4095 l h
  have HU0 : Hid (∀ W g, Rdr W g b 0 → Calls Try.prog 37 #[.pointer (some ⟨g, 0, none⟩), .int .u64 65536] W (Told W g .u64 (uptoB b 0 65536).1 (uptoB b 0 65536).2.1 (uptoB b 0 65536).2.2)) := fun W g h => upto_is W g 0 65536 b h
  have HNL : Hid ((uptoB b 0 65536).1 ≤ 65536) := uptoB_le _ _ _
  unfold readTb readZ
  generalize (uptoB b 0 65536).1 = N at *
  generalize (uptoB b 0 65536).2.1 = l1 at *
  generalize (uptoB b 0 65536).2.2 = e1 at *
  generalize hres : (if endZ (rdsT l1 e1 N).2.1 (rdsT l1 e1 N).2.2 = 0 ∧ tbOk (rdsT l1 e1 N).1 then ((rdsT l1 e1 N).1, (0 : Int)) else ([], 4)) = res
  have HRES := Lib.hid hres
  clear hv hw0 hlen hres
  go_enter Try.func10, Try.ntmps10
  go_wp2_with fail
  rw [HW0.out]
  refine HNW.out.mono ?_
  rintro e w1 ⟨g, rfl, hgz, hr1, hb1⟩
  have HR1 : Hid (TbBox w1 w.heap.size (.slice none 0 0)) := HR0.out.below hb1
  have HB1 : Hid (Below w.heap.size w w1) := HB0.out.trans (hb1.mono HB0.out.size)
  have HG : Hid (w.heap.size + 1 ≤ g ∧ g < w1.heap.size) := ⟨by have := HZ0.out; omega, hr1.lt⟩
  have HRD1 := Lib.hid hr1
  clear hgz hr1 hb1
  go_wp2_with fail
  refine (HU0.out w1 g HRD1.out).mono ?_
  rintro e w2 ⟨rfl, hr2, hg2⟩
  have HR2 : Hid (TbBox w2 w.heap.size (.slice none 0 0)) := HR1.out.grown hg2 (by have := HG.out; omega)
  have HB2 : Hid (Below w.heap.size w w2) := HB1.out.grown hg2 HB1.out.size (fun k e => by cases e; have := HG.out; omega)
  have HRD2 := Lib.hid hr2
  have HZ2 : Hid (w1.heap.size ≤ w2.heap.size) := hg2.size
  clear hr2 hg2
  go_wp2_with (first
    | (at_make; refine wpList_make_full _ rfl _ _ 22 rfl w2.heap.size 3 i0 _ 1 Try.underlying22 hi0 hz0 hz1 _ _ _ _ N rfl rfl (by omega) (by omega) (by rw [hz2]; have := HNL.out; omega) (by have := HNL.out; simp only [maxLen]; omega) (Nat.le_refl _) ?_; intro w3 hown3 hg3
       have HO3 : Hid (OwnV w3 w2.heap.size 3 (.slice (some ⟨w2.heap.size, 0, none⟩) N N) (intC (fillZ l1 e1 N 0))) := by
         have := OwnV.made rfl hown3
         rw [Hid, show fillZ l1 e1 N 0 = List.replicate N 0 by simp [fillZ, rdsT], intC_rep]
         exact this
       have HR3 : Hid (TbBox w3 w.heap.size (.slice none 0 0)) := HR2.out.below (below_none hg3)
       have HRD3 : Hid (Rdr w3 g l1 e1) := HRD2.out.below (below_none hg3)
       have HB3 : Hid (Below w.heap.size w w3) := HB2.out.trans ((below_none hg3).mono HB2.out.size)
       have HZ3 : Hid (w2.heap.size < w3.heap.size) := by
         rcases HO3.out.2 with ⟨e, _⟩ | ⟨g', cap, cur, e, _, hg, _⟩
         · cases e
         · injection e with e1 _ _
           injection e1 with e1
           injection e1 with e1 _ _
           subst e1
           exact (Array.getElem?_eq_some_iff.1 hg).1
       clear hown3 hg3)
    | (refine wpList_storeS (SBox.new w3 24 [.slice none 0 0]) tbInfo rfl _ _ rfl rfl (ds := [.slice (some ⟨w2.heap.size, 0, none⟩) N N]) rfl rfl (one_tb _ _ _) ?_; intro w4 hX4 hg4 hz4
       have HX4 : Hid (TbBox w4 w3.heap.size (.slice (some ⟨w2.heap.size, 0, none⟩) N N)) := hX4
       have c1 := TbBox.c0 hX4
       have HO4 : Hid (OwnV w4 w2.heap.size 3 (.slice (some ⟨w2.heap.size, 0, none⟩) N N) (intC (fillZ l1 e1 N 0))) := World.ownsRow.kept (World.ownsRow.alloc HO3.out _) hg4 (.inr (by have := HZ3.out; simp [Value.ownBlock]; omega))
       have HR4 : Hid (TbBox w4 w.heap.size (.slice none 0 0)) := (HR3.out.alloc _).grown hg4 (by have := HR3.out.lt; omega)
       have HRD4 : Hid (Rdr w4 g l1 e1) := (HRD3.out.below (below_new w3 _)).keepN (by have := HRD3.out.lt; omega) hg4 (TbBox.noByte (SBox.new w3 24 [.slice none 0 0]))
       have HB4 : Hid (Below w.heap.size w w4) := (HB3.out.alloc HB3.out.size _).grown hg4 (by have := HB3.out.size; rw [World.size_alloc]; omega) (fun k e => by cases e; exact HB3.out.size)
       clear hX4 hg4 hz4))
  have HORD : Hid (w.heap.size + 1 ≤ g ∧ g < w2.heap.size ∧ w2.heap.size < w3.heap.size) := ⟨HG.out.1, by have := HG.out; have := HZ2.out; omega, HZ3.out⟩
  generalize w3.heap.size = bx at *
  generalize w2.heap.size = r at *
  go_loopw [16] (fun i wr => RdTbL w bx g r N l1 e1 i wr) (fun i _ => N - (intOf i).toNat)
  case atStart => exact ⟨0, by omega, rfl, HR4.out, HX4.out, HO4.out, HRD4.out, HB4.out⟩
  case round =>
    obtain ⟨k, hk, rfl, hrr⟩ := hrel
    have HRR := Lib.hid hrr
    clear hrr c1
    by_cases hlt : k < N
    · have hkn : (k : Int) < (N : Int) := by omega
      have HLT : Hid (k < N) := hlt
      have hk65 : (k : Int) ≤ 65536 := by have := HNL.out; omega
      have HFS := Lib.hid (fillZ_set (l := l1) (e := e1) hlt)
      have HRK : Hid (rdsT l1 e1 (k + 1) = ((rdsT l1 e1 k).1 ++ [((uptoB (rdsT l1 e1 k).2.1 (rdsT l1 e1 k).2.2 4095).1 : Int)], (uptoB (rdsT l1 e1 k).2.1 (rdsT l1 e1 k).2.2 4095).2.1, (uptoB (rdsT l1 e1 k).2.1 (rdsT l1 e1 k).2.2 4095).2.2)) := rfl
      have HRD : Hid (Rdr wr.drew g (rdsT l1 e1 k).2.1 (rdsT l1 e1 k).2.2) := HRR.out.rd
      have HU1 := Lib.hid (HUP.out wr.drew g _ _ HRD.out)
      have hx := uptoB_le (rdsT l1 e1 k).2.1 (rdsT l1 e1 k).2.2 4095
      generalize (uptoB (rdsT l1 e1 k).2.1 (rdsT l1 e1 k).2.2 4095).1 = x at *
      generalize (uptoB (rdsT l1 e1 k).2.1 (rdsT l1 e1 k).2.2 4095).2.1 = lx at *
      generalize (uptoB (rdsT l1 e1 k).2.1 (rdsT l1 e1 k).2.2 4095).2.2 = ex at *
      have HWX : Hid (IntKind.i64.wrap (x : Int) = (x : Int)) := by rw [Hid, IntKind.wrap_i64]; omega
      have HRR' : Hid (RdTb w bx g r N l1 e1 k wr.drew) := ⟨HRR.out.res, HRR.out.box, HRR.out.own, HRR.out.rd, HRR.out.bel.drew⟩
      clear HRR hx hlt hk
      have HRR := HRR'
      clear HRR'
      go_wp2_with fail
      refine wp_region_T (R := fun x y => x.grownBy y (some g)) (by kernel_rfl) (fun _ => grown_refl _ _) (fun h k => grown_trans h k) (by kernel_rfl) 7 rfl (by kernel_rfl) (by kernel_rfl) (fun d v c a w h => by cases d <;> exact h)
        [(0, false), (1, false), (2, false), (3, false), (4, true), (5, false), (6, false)] rfl (by kernel_rfl) ?_
      simp only [sel, List.getElem?_toArray, List.getElem?_cons_succ, List.getElem?_cons_zero]
      generalize wr.drew = wd at *
      (refine schT_take ?_ rfl ?_ ?_; rotate_left; (focus (intro u hu; go_simp <;> rfl)); simp only [Act.put, List.setIfInBounds_toArray, List.set_cons_zero, List.set_cons_succ])
      (refine schT_take ?_ rfl ?_ ?_; rotate_left; (focus (intro u hu; have c1 := TbBox.c0 (SBox.grown HRR.out.box hu (by have := HORD.out; omega)); clear hu; go_simp <;> rfl)); simp only [Act.put, List.setIfInBounds_toArray, List.set_cons_zero, List.set_cons_succ])
      iterate 2 (refine schT_take ?_ rfl ?_ ?_; rotate_left; (focus (intro u hu; go_simp <;> rfl)); simp only [Act.put, List.setIfInBounds_toArray, List.set_cons_zero, List.set_cons_succ])
      refine schT_call rfl ?_
      intro K hK
      go_simp
      refine (HU1.out).mono ?_
      rintro e w6 ⟨rfl, hr6, hg6⟩
      go_wp2_with fail
      refine hK _ _ hg6 ?_
      clear hK K
      have HRR6 : Hid (TbBox w6 w.heap.size (.slice none 0 0)) := HRR.out.res.grown hg6 (by have := HORD.out; omega)
      have HRX6 : Hid (TbBox w6 bx (.slice (some ⟨r, 0, none⟩) N N)) := HRR.out.box.grown hg6 (by have := HORD.out; omega)
      have HRO6 : Hid (OwnV w6 r 3 (.slice (some ⟨r, 0, none⟩) N N) (intC (fillZ l1 e1 N k))) := World.ownsRow.kept HRR.out.own hg6 (.inr (by have := HORD.out; simp [Value.ownBlock]; omega))
      have HRB6 : Hid (Below w.heap.size w w6) := HRR.out.bel.grown hg6 HRR.out.bel.size (fun k e => by cases e; have := HORD.out; omega)
      have HRD6 := Lib.hid hr6
      clear hr6
      (refine schT_take ?_ rfl ?_ ?_; rotate_left; (focus (intro u hu; have hwx := HWX.out; go_simp <;> rfl)); simp only [Act.put, List.setIfInBounds_toArray, List.set_cons_zero, List.set_cons_succ])
      (refine schT_take ?_ rfl ?_ ?_; rotate_left; (focus (intro u hu; go_simp <;> rfl)); simp only [Act.put, List.setIfInBounds_toArray, List.set_cons_zero, List.set_cons_succ])
      refine schT_nil ?_
      refine schT_last rfl rfl ?_
      refine wp_put1 3 _ _ rfl k (.int .i64 (x : Int)) rfl rfl rfl intInfo1 _ (own_at HRO6.out (by rw [intC_len, fillZ_len (by have := HLT.out; omega)]) HLT.out) (own_thaw HRO6.out k) ?_
      intro w7 hw7
      have hg7 : w6.grownBy w7 (some r) := by rw [hw7]; exact grown_set _ _ _ _
      have hrel7 : Hid (RdTb w bx g r N l1 e1 (k + 1) w7) := ⟨HRR6.out.grown hg7 (by have := HORD.out; omega), HRX6.out.grown hg7 (by have := HORD.out; omega), by
        rw [hw7, ← HFS.out, intC_set]
        exact OwnV.set HRO6.out (by rw [intC_len, fillZ_len (by have := HLT.out; omega)]) k _, by
        rw [HRK.out]
        exact HRD6.out.keepN (by have := HORD.out; omega) hg7 (OwnV.noByte HRO6.out (fillZ_len (by have := HLT.out; omega))), HRB6.out.grown hg7 HRB6.out.size (fun k e => by cases e; have := HORD.out; omega)⟩
      clear hw7 hg7
      go_wp2_with fail
      go_roundw
      case rel => exact ⟨k + 1, by have := HLT.out; omega, by have := HNL.out; have := HLT.out; go_num, hrel7.out⟩
      case measure => have := HLT.out; simp [intOf]; omega
    · obtain rfl : N = k := by omega
      have hkn : ¬ ((N : Nat) : Int) < (N : Int) := by omega
      have HFZ : Hid (fillZ l1 e1 N N = (rdsT l1 e1 N).1) := by rw [Hid]; simp [fillZ]
      have HEN := Lib.hid (endz_any wr g _ _ HRR.out.rd)
      have HIN : Hid (TbIn wr (.slice (some ⟨r, 0, none⟩) N N) (rdsT l1 e1 N).1) := ⟨HFZ.out ▸ HRR.out.own.rowz, by rw [rdsT_len]; exact HNL.out, fun j => by have := rdsT_in l1 e1 N j; omega⟩
      generalize (rdsT l1 e1 N).2.1 = l3 at *
      generalize (rdsT l1 e1 N).2.2 = e3 at *
      generalize endZ l3 e3 = E at *
      generalize (rdsT l1 e1 N).1 = zs at *
      clear hlt hk
      have HXE : Hid (TbBox wr bx (.slice (some ⟨r, 0, none⟩) N N)) := HRR.out.box
      have HRE : Hid (TbBox wr w.heap.size (.slice none 0 0)) := HRR.out.res
      have HOE : Hid (OwnV wr r 3 (.slice (some ⟨r, 0, none⟩) N N) (intC zs)) := HFZ.out ▸ HRR.out.own
      have HBE : Hid (Below w.heap.size w wr) := HRR.out.bel
      by_cases hE : E = 0
      · subst hE
        by_cases hok : tbOk zs
        · have hrs : res = (zs, 0) := by rw [← HRES.out, if_pos ⟨rfl, hok⟩]
          subst hrs
          have hck : chkT zs = 0 := if_pos hok
          have HCK := Lib.hid fun W (hb : Below wr.heap.size wr W ∨ wr.grownBy W (some g)) (hW : TbIn W (.slice (some ⟨r, 0, none⟩) N N) zs) => tcheck_any W _ zs hW
          rw [hck] at HCK
          clear hck hok
          go_wp2_with fail
          refine HEN.out.mono ?_
          rintro e w6 ⟨rfl, hr6, hg6⟩
          have HX6 : Hid (TbBox w6 bx (.slice (some ⟨r, 0, none⟩) N N)) := HXE.out.grown hg6 (by have := HORD.out; omega)
          have HR6 : Hid (TbBox w6 w.heap.size (.slice none 0 0)) := HRE.out.grown hg6 (by have := HORD.out; omega)
          have HO6 : Hid (OwnV w6 r 3 (.slice (some ⟨r, 0, none⟩) N N) (intC zs)) := World.ownsRow.kept HOE.out hg6 (.inr (by have := HORD.out; simp [Value.ownBlock]; omega))
          have HB6 : Hid (Below w.heap.size w w6) := HBE.out.grown hg6 HBE.out.size (fun k e => by cases e; have := HORD.out; omega)
          have HG6 := Lib.hid hg6
          clear hr6 hg6
          have c6 := HX6.out.c0
          go_wp2_with fail
          refine (HCK.out w6 (.inr HG6.out) ⟨HO6.out.rowz, HIN.out.len, HIN.out.inz⟩).mono ?_
          rintro e w7 ⟨rfl, hb7⟩
          have HX7 : Hid (TbBox w7 bx (.slice (some ⟨r, 0, none⟩) N N)) := HX6.out.below hb7
          have HR7 : Hid (TbBox w7 w.heap.size (.slice none 0 0)) := HR6.out.below hb7
          have HO7 : Hid (OwnV w7 r 3 (.slice (some ⟨r, 0, none⟩) N N) (intC zs)) := HO6.out.keep hb7
          have HB7 : Hid (Below w.heap.size w w7) := HB6.out.trans (hb7.mono HB6.out.size)
          clear hb7 c6
          go_wp2_with (first
            | (refine wpList_loadS HX7.out Try.underlying24 tbInfo rfl _ rfl rfl ?_)
            | (refine wpList_storeS HR7.out tbInfo rfl _ _ rfl rfl (ds := [.slice (some ⟨r, 0, none⟩) N N]) rfl rfl (one_tb _ _ _) ?_; intro w9 hR9 hg9 hz9))
          refine ret_s2 hR9 Try.underlying24 tbInfo rfl rfl rfl _ rfl ?_
          exact ⟨_, rfl, ((OwnV.rowO HO7.out).grown hg9 (by have := HORD.out; omega)).lower (by have := HORD.out; omega), HB7.out.grown hg9 HB7.out.size (fun k e => by cases e; omega)⟩
        · have hrs : res = ([], 4) := by rw [← HRES.out, if_neg (fun h => hok h.2)]
          subst hrs
          have hck : chkT zs = 2 := if_neg hok
          have HCK := Lib.hid fun W (hb : Below wr.heap.size wr W ∨ wr.grownBy W (some g)) (hW : TbIn W (.slice (some ⟨r, 0, none⟩) N N) zs) => tcheck_any W _ zs hW
          rw [hck] at HCK
          clear hck hok
          go_wp2_with fail
          refine HEN.out.mono ?_
          rintro e w6 ⟨rfl, hr6, hg6⟩
          have HX6 : Hid (TbBox w6 bx (.slice (some ⟨r, 0, none⟩) N N)) := HXE.out.grown hg6 (by have := HORD.out; omega)
          have HR6 : Hid (TbBox w6 w.heap.size (.slice none 0 0)) := HRE.out.grown hg6 (by have := HORD.out; omega)
          have HO6 : Hid (OwnV w6 r 3 (.slice (some ⟨r, 0, none⟩) N N) (intC zs)) := World.ownsRow.kept HOE.out hg6 (.inr (by have := HORD.out; simp [Value.ownBlock]; omega))
          have HB6 : Hid (Below w.heap.size w w6) := HBE.out.grown hg6 HBE.out.size (fun k e => by cases e; have := HORD.out; omega)
          have HG6 := Lib.hid hg6
          clear hr6 hg6
          have c6 := HX6.out.c0
          go_wp2_with fail
          refine (HCK.out w6 (.inr HG6.out) ⟨HO6.out.rowz, HIN.out.len, HIN.out.inz⟩).mono ?_
          rintro e w7 ⟨rfl, hb7⟩
          have HX7 : Hid (TbBox w7 bx (.slice (some ⟨r, 0, none⟩) N N)) := HX6.out.below hb7
          have HR7 : Hid (TbBox w7 w.heap.size (.slice none 0 0)) := HR6.out.below hb7
          have HO7 : Hid (OwnV w7 r 3 (.slice (some ⟨r, 0, none⟩) N N) (intC zs)) := HO6.out.keep hb7
          have HB7 : Hid (Below w.heap.size w w7) := HB6.out.trans (hb7.mono HB6.out.size)
          clear hb7 c6
          go_wp2_with (refine wpList_storeS HR7.out tbInfo rfl _ _ rfl rfl (ds := [.slice none 0 0]) rfl rfl (one_tb none 0 0) ?_; intro w9 hR9 hg9 hz9)
          refine ret_s2 hR9 Try.underlying24 tbInfo rfl rfl rfl _ rfl ?_
          exact ⟨_, rfl, RowO.nil _ _, HB7.out.grown hg9 HB7.out.size (fun k e => by cases e; omega)⟩
      · have hrs : res = ([], 4) := by rw [← HRES.out, if_neg (fun h => hE h.1)]
        subst hrs
        have hEE : ((E : Int) != 0) = true := by simpa using hE
        clear hE
        go_wp2_with fail
        refine HEN.out.mono ?_
        rintro e w6 ⟨rfl, hr6, hg6⟩
        have HR7 : Hid (TbBox w6 w.heap.size (.slice none 0 0)) := HRE.out.grown hg6 (by have := HORD.out; omega)
        have HB7 : Hid (Below w.heap.size w w6) := HBE.out.grown hg6 HBE.out.size (fun k e => by cases e; have := HORD.out; omega)
        clear hr6 hg6
        go_wp2_with (refine wpList_storeS HR7.out tbInfo rfl _ _ rfl rfl (ds := [.slice none 0 0]) rfl rfl (one_tb none 0 0) ?_; intro w9 hR9 hg9 hz9)
        refine ret_s2 hR9 Try.underlying24 tbInfo rfl rfl rfl _ rfl ?_
        exact ⟨_, rfl, RowO.nil _ _, HB7.out.grown hg9 HB7.out.size (fun k e => by cases e; omega)⟩
end Go.Proofs.Ythakkaffjnkhgaa
