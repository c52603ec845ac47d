/-
  Package chain: a link's body; what a page tells (told). Conditions: a link's bytes fit a page; a place below 2^32.
-/
import Derived.Test.YtknagdbhhfelnaaDoorCCnB
import Derived.Test.YtknagdbhhfelnaaDoorCSBx
import Derived.Test.YtknagdbhhfelnaaDoorMg0
import Derived.Test.YtknagdbhhfelnaaDoorMg5
import Derived.Test.YtknagdbhhfelnaaDoorCTurn
namespace Go.Proofs.YtknagdbhhfelnaaDoor
open Go.RowKit Go.Maps
set_option maxRecDepth 100000
set_option linter.unusedVariables false

theorem lkInfo : (Tryd.prog.info? 63).map (·.size) = some ([.int .i64 0, .slice none 0 0] : List Value).length := by kernel_rfl
theorem lkUnder : Tryd.prog.underlying 63 = some (.struct (Tryd.prog.fieldsOf 63)) := by kernel_rfl
theorem pgInfo9 : (Tryd.prog.info? 48).map (·.size) = some ([.int .i64 0, .int .u32 0, .slice none 0 0] : List Value).length := by kernel_rfl
/-- A link's box. -/
def LkBox (w : World) (g : Nat) (n : Int) (v : Value) : Prop := SBox w g 63 [.int .i64 n, v]
theorem LkBox.c0 {w : World} {g : Nat} {n : Int} {v : Value} (h : LkBox w g n v) : w.cell? ⟨g, 0, none⟩ = some (.int .i64 n) := SBox.cell h 0 _ rfl
theorem LkBox.c1 {w : World} {g : Nat} {n : Int} {v : Value} (h : LkBox w g n v) : w.cell? ⟨g, 1, none⟩ = some v := SBox.cell h 1 _ rfl
theorem LkBox.below {w w' : World} {g : Nat} {n : Int} {v : Value} (h : LkBox w g n v) (hb : Below w.heap.size w w') : LkBox w' g n v := SBox.below h hb
theorem LkBox.grown {w w' : World} {g k : Nat} {n : Int} {v : Value} (h : LkBox w g n v) (hg : w.grownBy w' (some k)) (hne : g ≠ k) : LkBox w' g n v := SBox.grown h hg hne
theorem LkBox.notByte {w : World} {g : Nat} {n : Int} {A : Option Addr} {m c : Nat} (h : LkBox w g n (.slice A m c)) : ¬ ∃ off u, w.cell? ⟨g, off, none⟩ = some (.int .u8 u) := by
  rintro ⟨off, u, hc⟩
  rw [cell_of_row _ _ _ _ _ _ h] at hc
  match off, hc with
  | 0, hc => simp at hc
  | 1, hc => simp at hc
  | n + 2, hc => simp at hc
theorem Byt.lk {w w' : World} {g : Nat} {n : Int} {A : Option Addr} {m c : Nat} {v : Value} {l : List UInt8} (h : Byt w v l) (hb : LkBox w g n (.slice A m c)) (hg : w.grownBy w' (some g)) : Byt w' v l :=
  h.keep hg.size fun b hlt hex => hg.block b hlt (by rintro ⟨rfl⟩; exact hb.notByte hex)
theorem one_lk (n : Int) (A : Option Addr) (m c : Nat) : ∀ u ∈ ([.int .i64 n, .slice A m c] : List Value), u.oneCell' = true := by
  intro u hu
  simp at hu
  rcases hu with rfl | rfl <;> rfl
theorem one_pg (k n : Int) (A : Option Addr) (m c : Nat) : ∀ u ∈ ([.int .i64 k, .int .u32 n, .slice A m c] : List Value), u.oneCell' = true := by
  intro u hu
  simp at hu
  rcases hu with rfl | rfl | rfl <;> rfl
theorem word4_eq (nx : Nat) : wordB 4 nx = [] ++ wordB 4 nx := rfl

set_option maxHeartbeats 1000000 in
theorem cbody_any (w : World) (nx : Nat) (vb : Value) (x : List UInt8) (hv : Byt w vb x) (hn : nx < 4294967296) (hx : x.length ≤ 4074) :
    Calls Tryd.prog 25 #[.agg #[.int .i64 (nx : Int), vb]] w (Made w (linkB nx x)) := by
  obtain ⟨i0, hi0, hz0, hz1, hz2⟩ := info_parts uinfo
  obtain ⟨w0, hw0⟩ : ∃ w0, w.alloc (.cells #[.int .i64 (nx : Int), vb] 63) = w0 := ⟨_, rfl⟩
  have hA : LkBox w0 w.heap.size nx vb := hw0 ▸ SBox.new w 63 [.int .i64 (nx : Int), vb]
  have hb0 : Below w.heap.size w w0 := hw0 ▸ below_new w _
  have HV := Lib.hid (hv.below hb0)
  obtain ⟨A, n, c, rfl, N, hnc, hcm⟩ := hv.form
  have hn' : n = x.length := N.out
  subst hn'
  have HB0 := Lib.hid hb0
  have HW0 := Lib.hid hw0
  have HA := Lib.hid hA
  have c0 := hA.c0
  have c1 := hA.c1
  have HWD := Lib.hid (word_is w0 (.slice none 0 0) [] nx 4 (Byt.nil _) (by omega) (by omega) (by simp))
  have HX := Lib.hid hx
  clear hv hA hb0 hw0 N
  go_enter Tryd.func25, Tryd.ntmps25
  go_wp2_with fail
  rw [HW0.out]
  go_wp2_with fail
  refine HWD.out.mono ?_
  rintro e w1 ⟨v1, rfl, hown1, hb1⟩
  rw [List.nil_append] at hown1
  have HO1 := Lib.hid hown1
  have HB1 := Lib.hid hb1
  have HA1 := Lib.hid (HA.out.below hb1)
  have c0 := LkBox.c0 HA1.out
  have c1 := LkBox.c1 HA1.out
  clear hown1 hb1
  go_wp2_with fail
  refine (word_is w1 v1 (wordB 4 nx) x.length 2 HO1.out.byt (by omega) (by omega) (by rw [wordB_len]; omega)).mono ?_
  rintro e w2 ⟨v2, rfl, hown2, hb2⟩
  have HO2 := Lib.hid hown2
  have HB2 := Lib.hid hb2
  have HA2 := Lib.hid (HA1.out.below hb2)
  have HV2 : Hid (Byt w2 (.slice A x.length c) x) := (HV.out.below HB1.out).below hb2
  have HL2 : Hid ((wordB 4 nx ++ wordB 2 x.length).length = 6) := by rw [Hid, List.length_append, wordB_len, wordB_len]
  have c0 := LkBox.c0 HA2.out
  have c1 := LkBox.c1 HA2.out
  clear hown2 hb2
  go_wp2_with (at_builtin; refine wpList_app _ rfl (.tmp 14) (.tmp 16) _ rfl w1.heap.size 5 i0 _ Tryd.underlying27 hi0 hz0 hz1 hz2 rfl _ _ rfl HO2.out _ x rfl HV2.out (by rw [HL2.out]; omega) HB2.out.size ?_; intro v3 w3 hown3 hg3 hat3)
  have HB3 : Hid (Below w1.heap.size w1 w3) := below_own HB2.out HB2.out.size HO2.out hg3
  have HO3 := Lib.hid hown3
  clear hown3 hg3 hat3
  go_ret
  have hs0 : w.heap.size ≤ w1.heap.size := Nat.le_trans HB0.out.size HB1.out.size
  refine ⟨v3, rfl, ?_, HB0.out.trans ((HB1.out.mono HB0.out.size).trans (HB3.out.mono hs0))⟩
  have := HO3.out.lower hs0
  rw [List.append_assoc] at this
  exact this

/-- What a call of a reader that answers bytes of their own leaves. -/
def TookO (w : World) (g : Nat) (m l : List UInt8) (x : Ending) (w' : World) : Prop :=
  ∃ v, x = .returned v ∧ Own w' w.heap.size 5 v m ∧ Rdr w' g l 0 ∧ w.grownBy w' (some g)
set_option maxRecDepth 100000 in
set_option maxHeartbeats 1000000 in
theorem take_own (w : World) (g : Nat) (l : List UInt8) (skip n : Nat) (hr : Rdr w g l 0) (hs : skip + n ≤ l.length) (hlen : l.length ≤ 70368744177664) :
    Calls Tryd.prog 79 #[.pointer (some ⟨g, 0, none⟩), .int .i64 (skip : Int), .int .u64 (n : Int)] w (TookO w g ((l.drop skip).take n) (l.drop (skip + n))) := by
  obtain ⟨A, c, h0, h1, h2, hf1, hf2, hby, hlc, hcm⟩ := hr.cells
  have HR := Lib.hid hr
  obtain ⟨A1, n1, c1, r1, b1, N1, l1, m1⟩ := hby.cutrun 27 elemByte sizeByte skip (by omega) .i64
  have hn1 : n ≤ n1 := by have := N1.out; omega
  obtain ⟨A2, n2, c2, r2, b2, N2, l2, m2⟩ := b1.cutrun 27 elemByte sizeByte n hn1 .u64
  obtain ⟨A3, n3, c3, r3, b3, N3, l3, m3⟩ := b1.uptorun 27 elemByte sizeByte n hn1 .u64
  have HR2 : Hid (Rdr (w.setCell ⟨g, 1, none⟩ (.slice A2 n2 c2)) g (l.drop (skip + n)) 0) := by
    have e2 : n2 = (l.drop (skip + n)).length := by have := N1.out; have := N2.out; rw [List.length_drop]; omega
    rw [List.drop_drop] at b2
    rw [e2] at b2 ⊢
    exact HR.out.setRest b2
  have HB3 : Hid (Byt (w.setCell ⟨g, 1, none⟩ (.slice A2 n2 c2)) (.slice A3 n3 c3) ((l.drop skip).take n)) := b3.reader HR.out (grown_set _ _ _ _)
  have hl3 : ((l.drop skip).take n).length ≤ 70368744177664 := by rw [List.length_take]; omega
  clear hr hby b1 b2 b3
  have hn1' : ¬ (n1 : Int) < (n : Int) := by omega
  go_enter Tryd.func79, Tryd.ntmps79
  go_wp2_with fail
  refine (behind_one _ _ ((l.drop skip).take n) HB3.out hl3).mono ?_
  rintro x w1 ⟨v1, rfl, hown1, hb1⟩
  have HOW := Lib.hid hown1
  clear hown1
  go_wp2_with fail
  go_ret
  exact ⟨_, rfl, HOW.out.lower (by rw [setCell_size]; exact Nat.le_refl _), HR2.out.below hb1, grown_trans (grown_set _ _ _ _) (grown_below hb1)⟩
set_option maxRecDepth 100000 in
set_option maxHeartbeats 1000000 in
theorem fixed_own (w : World) (g : Nat) (l : List UInt8) (n : Nat) (hr : Rdr w g l 0) (hlen : l.length ≤ 70368744177664) (hn : n ≤ l.length) :
    Calls Tryd.prog 68 #[.pointer (some ⟨g, 0, none⟩), .int .i64 (n : Int)] w (TookO w g (l.take n) (l.drop n)) := by
  have HR := Lib.hid hr
  have H := Lib.hid (take_own w g l 0 n hr (by omega) hlen)
  rw [List.drop_zero, Nat.zero_add] at H
  clear hr
  go_enter Tryd.func68, Tryd.ntmps68
  go_wp2_with fail
  refine (err_is _ g 0 l HR.out).mono ?_
  rintro x w1 ⟨rfl, rfl⟩
  go_wp2_with fail
  first | rw [show max (n : Int) 0 = (n : Int) from by omega] | skip
  refine (H.out).mono ?_
  rintro x w1 ⟨v1, rfl, hb1, hr1, hg1⟩
  have HB := Lib.hid hb1
  have HR1 := Lib.hid hr1
  have HG := Lib.hid hg1
  clear hb1 hr1 hg1
  go_wp2_with fail
  go_ret
  exact ⟨_, rfl, HB.out, HR1.out, HG.out⟩
/-- What told leaves. -/
def ToldQ (w : World) (r : Option (Nat × List UInt8)) (e : Ending) (w' : World) : Prop :=
  Below w.heap.size w w' ∧ match r with
  | none => e = .returned (.tuple #[.agg #[.int .i64 0, .slice none 0 0], .int .i64 4])
  | some (nx, x) => ∃ v, e = .returned (.tuple #[.agg #[.int .i64 (nx : Int), v], .int .i64 0]) ∧ Own w' w.heap.size 5 v x
theorem wordR_ok (l : List UInt8) (k : Nat) (hk : k = 2 ∨ k = 4 ∨ k = 8) (h : k ≤ l.length) : wordR l 0 (k : Int) = (wordN (l.take k), l.drop k, 0) := by
  unfold wordR
  rw [if_neg (by omega), if_pos (by omega), Int.toNat_natCast]
  unfold takeB
  rw [if_pos (by omega)]
  simp
theorem fixedB_ok (l : List UInt8) (k : Nat) (h : k ≤ l.length) : fixedB l 0 k = (l.take k, l.drop k, 0) := by
  unfold fixedB
  rw [if_neg (by omega)]
  unfold takeB
  rw [if_pos (by omega)]
  simp
theorem u64_i64 (n : Nat) (h : n < 4294967296) : IntKind.i64.wrap ((n : Nat) : Int) = (n : Int) := by simp [IntKind.wrap, IntKind.signed, IntKind.bits]; omega
def ReadK (w : World) (l : List UInt8) (k n : Nat) (e : Ending) (w' : World) : Prop :=
  ∃ A m c, e = .returned (.tuple #[.agg #[.int .i64 (k : Int), .int .u32 (n : Int), .slice A m c], .int .i64 0]) ∧ Byt w' (.slice A m c) (l.drop 16) ∧ Below w.heap.size w w'
theorem read_k (w : World) (v : Value) (x : List UInt8) (k n : Nat) (hv : Byt w v x) (ho : okB x) (hk : (x.getD 3 0).toNat = k) (hn : numW x = n) : Calls Tryd.prog 64 #[v] w (ReadK w x k n) := by
  refine (read_ok w v x hv ho).mono ?_
  rintro e w1 ⟨v1, rfl, hown, hb1⟩
  obtain ⟨A1, m1, c1, rfl, _, _, _⟩ := hown.byt.form
  rw [hk, hn]
  exact ⟨A1, m1, c1, rfl, hown.byt, hb1⟩
set_option maxHeartbeats 2000000 in
theorem ctold_1 (w : World) (v : Value) (x : List UInt8) (k place : Nat) (hv : Byt w v x) (hp : place < 4294967296) (h : ¬ (okB x ∧ (x.getD 3 0).toNat = k ∧ numW x = place)) :
    Calls Tryd.prog 51 #[v, .int .i64 (k : Int), .int .i64 (place : Int)] w (ToldQ w none) := by
  obtain ⟨w0, hw0⟩ : ∃ w0, w.alloc (.cells #[.int .i64 0, .slice none 0 0] 63) = w0 := ⟨_, rfl⟩
  have hA : LkBox w0 w.heap.size 0 (.slice none 0 0) := hw0 ▸ SBox.new w 63 [.int .i64 0, .slice none 0 0]
  have hb0 : Below w.heap.size w w0 := hw0 ▸ below_new w _
  have HV := Lib.hid (hv.below hb0)
  have HW0 := Lib.hid hw0
  have HA := Lib.hid hA
  have HB0 := Lib.hid hb0
  clear hv hA hw0 hb0
  by_cases ho : okB x
  · obtain ⟨kd, hkd⟩ : ∃ kd, (x.getD 3 0).toNat = kd := ⟨_, rfl⟩
    obtain ⟨nw, hnw⟩ : ∃ nw, numW x = nw := ⟨_, rfl⟩
    have HR := Lib.hid (read_k w0 v x kd nw HV.out ho hkd hnw)
    have hk2 : kd < 256 := hkd ▸ (x.getD 3 0).toNat_lt
    have hn2 : nw < 4294967296 := hnw ▸ numW_lt x
    rw [hkd, hnw] at h
    clear hkd hnw
    by_cases hk : kd = k
    · have hn : nw ≠ place := fun e => h ⟨ho, hk, e⟩
      have hne := ne_int hn
      clear h hn ho
      subst hk
      go_enter Tryd.func51, Tryd.ntmps51
      go_wp2_with fail
      rw [HW0.out]
      refine HR.out.mono ?_
      rintro e w1 ⟨A1, m1, c1, rfl, hown, hb1⟩
      have HA1 : Hid (LkBox w1 w.heap.size 0 (.slice none 0 0)) := HA.out.below hb1
      have HB1 : Hid (Below w.heap.size w w1) := HB0.out.trans (hb1.mono HB0.out.size)
      clear hown hb1
      go_wp2_with (first
        | (refine wpList_storeS (SBox.new w1 48 [.int .i64 0, .int .u32 0, .slice none 0 0]) pgInfo9 rfl (.tmp 8) (.tmp 17) rfl rfl (ds := [.int .i64 (kd : Int), .int .u32 (nw : Int), .slice A1 m1 c1]) rfl rfl (one_pg _ _ _ _ _) ?_; intro w3 hs3 hg3 hz3
           have HA3 : Hid (LkBox w3 w.heap.size 0 (.slice none 0 0)) := SBox.grown (SBox.alloc HA1.out _) hg3 (by have := SBox.lt HA1.out; omega)
           have HB3 : Hid (Below w.heap.size w w3) := (HB1.out.alloc HB1.out.size _).grown hg3 (by simp; exact Nat.le_succ_of_le HB1.out.size) (fun j e => by cases e; exact HB1.out.size)
           have p0 := SBox.cell hs3 0 _ rfl
           have p1 := SBox.cell hs3 1 _ rfl
           have p2 := SBox.cell hs3 2 _ rfl
           clear hs3 hg3 hz3)
        | (refine wpList_storeS HA3.out lkInfo rfl (.tmp 6) (.tmp 34) rfl rfl (ds := [.int .i64 0, .slice none 0 0]) rfl rfl (one_lk _ _ _ _) ?_; intro w4 hs4 hg4 hz4
           have HB4 : Hid (Below w.heap.size w w4) := HB3.out.grown hg4 HB3.out.size (fun j e => by cases e; exact Nat.le_refl _)))
      refine ret_s2 hs4 lkUnder lkInfo rfl rfl rfl _ rfl ?_
      exact ⟨HB4.out, rfl⟩
    · have hne := ne_int hk
      clear h hk ho
      go_enter Tryd.func51, Tryd.ntmps51
      go_wp2_with fail
      rw [HW0.out]
      refine HR.out.mono ?_
      rintro e w1 ⟨A1, m1, c1, rfl, hown, hb1⟩
      have HA1 : Hid (LkBox w1 w.heap.size 0 (.slice none 0 0)) := HA.out.below hb1
      have HB1 : Hid (Below w.heap.size w w1) := HB0.out.trans (hb1.mono HB0.out.size)
      clear hown hb1
      go_wp2_with (first
        | (refine wpList_storeS (SBox.new w1 48 [.int .i64 0, .int .u32 0, .slice none 0 0]) pgInfo9 rfl (.tmp 8) (.tmp 17) rfl rfl (ds := [.int .i64 (kd : Int), .int .u32 (nw : Int), .slice A1 m1 c1]) rfl rfl (one_pg _ _ _ _ _) ?_; intro w3 hs3 hg3 hz3
           have HA3 : Hid (LkBox w3 w.heap.size 0 (.slice none 0 0)) := SBox.grown (SBox.alloc HA1.out _) hg3 (by have := SBox.lt HA1.out; omega)
           have HB3 : Hid (Below w.heap.size w w3) := (HB1.out.alloc HB1.out.size _).grown hg3 (by simp; exact Nat.le_succ_of_le HB1.out.size) (fun j e => by cases e; exact HB1.out.size)
           have p0 := SBox.cell hs3 0 _ rfl
           have p1 := SBox.cell hs3 1 _ rfl
           have p2 := SBox.cell hs3 2 _ rfl
           clear hs3 hg3 hz3)
        | (refine wpList_storeS HA3.out lkInfo rfl (.tmp 6) (.tmp 34) rfl rfl (ds := [.int .i64 0, .slice none 0 0]) rfl rfl (one_lk _ _ _ _) ?_; intro w4 hs4 hg4 hz4
           have HB4 : Hid (Below w.heap.size w w4) := HB3.out.grown hg4 HB3.out.size (fun j e => by cases e; exact Nat.le_refl _)))
      refine ret_s2 hs4 lkUnder lkInfo rfl rfl rfl _ rfl ?_
      exact ⟨HB4.out, rfl⟩
  · have HR := Lib.hid (read_bad w0 v x HV.out ho)
    clear h ho
    go_enter Tryd.func51, Tryd.ntmps51
    go_wp2_with fail
    rw [HW0.out]
    refine HR.out.mono ?_
    rintro e w1 ⟨rfl, hb1⟩
    have HA1 : Hid (LkBox w1 w.heap.size 0 (.slice none 0 0)) := HA.out.below hb1
    have HB1 : Hid (Below w.heap.size w w1) := HB0.out.trans (hb1.mono HB0.out.size)
    clear hb1
    simp only [pageV]
    go_wp2_with (first
      | (refine wpList_storeS (SBox.new w1 48 [.int .i64 0, .int .u32 0, .slice none 0 0]) pgInfo9 rfl (.tmp 8) (.tmp 17) rfl rfl (ds := [.int .i64 0, .int .u32 0, .slice none 0 0]) rfl rfl (one_pg _ _ _ _ _) ?_; intro w3 hs3 hg3 hz3
         have HA3 : Hid (LkBox w3 w.heap.size 0 (.slice none 0 0)) := SBox.grown (SBox.alloc HA1.out _) hg3 (by have := SBox.lt HA1.out; omega)
         have HB3 : Hid (Below w.heap.size w w3) := (HB1.out.alloc HB1.out.size _).grown hg3 (by simp; exact Nat.le_succ_of_le HB1.out.size) (fun j e => by cases e; exact HB1.out.size)
         clear hs3 hg3 hz3)
      | (refine wpList_storeS HA3.out lkInfo rfl (.tmp 6) (.tmp 34) rfl rfl (ds := [.int .i64 0, .slice none 0 0]) rfl rfl (one_lk _ _ _ _) ?_; intro w4 hs4 hg4 hz4
         have HB4 : Hid (Below w.heap.size w w4) := HB3.out.grown hg4 HB3.out.size (fun j e => by cases e; exact Nat.le_refl _)))
    refine ret_s2 hs4 lkUnder lkInfo rfl rfl rfl _ rfl ?_
    exact ⟨HB4.out, rfl⟩
end Go.Proofs.YtknagdbhhfelnaaDoor
