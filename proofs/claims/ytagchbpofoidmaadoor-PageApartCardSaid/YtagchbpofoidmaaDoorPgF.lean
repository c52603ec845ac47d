/-
  The laws of layer 5: their 'lives', and a page that comes in. Conditions: none.
-/
import Derived.Test.YtagchbpofoidmaaDoorPgE
import Derived.Test.YtagchbpofoidmaaDoorOpen
namespace Go.Proofs.YtagchbpofoidmaaDoor
open Go.RowKit Go.Maps
set_option maxRecDepth 100000

/-- Read of a page's bytes. -/
def ReadP (w : World) (k n : Nat) (l : List UInt8) (e : Ending) (w' : World) : Prop :=
  ∃ v, e = .returned (.tuple #[.agg (pageV (k : Int) (n : Int) v), .int .i64 0]) ∧ Own w' w.heap.size 5 v l ∧ Below w.heap.size w w'
theorem read_page (w : World) (v : Value) (k n : Nat) (l : List UInt8) (hv : Byt w v (pageB k n l)) (h1 : 1 ≤ k) (h7 : k ≤ 7) (hl : l.length ≤ 4080) (hn : n < 4294967296) : Calls Tryd.prog 10 #[v] w (ReadP w k n (padB l)) := by
  have := read_ok w v _ hv (pageB_ok h1 h7 hl)
  unfold ReadE at this
  rw [pageB_kind k n l (by omega), pageB_num k n l hn, pageB_drop] at this
  exact this
theorem lives5_head : (pageB 6 258 [97, 98]).take 12 = [84, 77, 1, 6, 2, 1, 0, 0, 0, 0, 0, 0] := by rw [pageB_take]; decide
theorem lives5_body : (padB [97, 98]).take 3 = [97, 98, 0] := by
  unfold padB
  rw [show 4080 - [(97 : UInt8), 98].length = 1 + 4077 from rfl, zs_split]
  rfl
set_option maxRecDepth 100000 in
set_option maxHeartbeats 4000000 in
theorem lives5_any (w : World) : Calls Tryd.prog 13 #[] w (BoolB w true) := by
  have kc := fun (w : World) (C : Array Value) (n c : Nat) => Lib.run_convert_bytes_const (P := Tryd.prog) w 22 5 C n c Tryd.underlying22 Tryd.underlying5
  obtain ⟨w0, hw0⟩ : ∃ w0, w0 = w.alloc (.cells #[.int .u8 97, .int .u8 98] 5 (2, 3)) := ⟨_, rfl⟩
  have HV0 : Hid (Byt w0 (.slice (some ⟨w.heap.size, 0, none⟩) 2 2) [97, 98]) := hw0 ▸ Byt.lit w 5 [97, 98] (2, 3) (by simp [maxLen])
  have HB0 : Hid (Below w.heap.size w w0) := hw0 ▸ below_new w _
  have HW0 : Hid (w.alloc (.cells #[.int .u8 97, .int .u8 98] 5 (2, 3)) = w0) := hw0.symm
  clear hw0
  go_enter Tryd.func13, Tryd.ntmps13
  go_wp2_with fail
  rw [HW0.out]
  refine (bytes_ok w0 6 258 _ [97, 98] HV0.out (by omega) (by omega) (by simp) (by omega)).mono ?_
  rintro e w1 ⟨v1, rfl, hown1, hb1⟩
  have HO1 := Lib.hid hown1
  have HB1 := Lib.hid (HB0.out.trans (hb1.mono HB0.out.size))
  have hf := hown1.byt.form
  obtain ⟨A1, n1, c1, rfl, N1, hnc1, hcm1⟩ := hf
  obtain rfl : n1 = 4096 := N1.out.trans (pageB_len (by simp))
  obtain ⟨A2, n2, c2, r2, b2, N2, _, _⟩ := hown1.byt.uptorun 22 elemByte sizeByte 12 (by omega) .i64
  have r2' : ∀ W, (Instr.slice 22 (.slice A1 4096 c1) none (some (.int .i64 12)) none).run Tryd.prog W = .ok (.slice A2 n2 c2) W := r2
  have T2 := text_of b2
  have E2 := bytes_lit ((pageB 6 258 [97, 98]).take 12) [84, 77, 1, 6, 2, 1, 0, 0, 0, 0, 0, 0]
  rw [decide_eq_true lives5_head] at E2
  generalize (⟨((pageB 6 258 [97, 98]).take 12).toArray⟩ : ByteArray) = s2 at *
  clear hown1 hb1 r2 b2 N1
  go_wp2_with fail
  refine (read_page w1 _ 6 258 [97, 98] HO1.out.byt (by omega) (by omega) (by simp) (by omega)).mono ?_
  rintro e w2 ⟨v3, rfl, hown3, hb3⟩
  have HO3 := Lib.hid hown3
  have HB3 := Lib.hid (HB1.out.trans (hb3.mono HB1.out.size))
  have hf := hown3.byt.form
  obtain ⟨A3, n3, c3, rfl, N3, hnc3, hcm3⟩ := hf
  obtain rfl : n3 = 4080 := N3.out.trans (padB_len (by simp))
  obtain ⟨A4, n4, c4, r4, b4, N4, _, _⟩ := hown3.byt.uptorun 22 elemByte sizeByte 3 (by omega) .i64
  have r4' : ∀ W, (Instr.slice 22 (.slice A3 4080 c3) none (some (.int .i64 3)) none).run Tryd.prog W = .ok (.slice A4 n4 c4) W := r4
  have T4 : ∀ W, Below w2.heap.size w2 W → (convert 22 9 (.slice A4 n4 c4)).run Tryd.prog W = .ok (.string ⟨((padB [97, 98]).take 3).toArray⟩) W := fun W hW => text_of (b4.below hW)
  have T4' := T4 _ (below_new w2 (.cells (pageV 6 258 (.slice A3 4080 c3)) 28))
  unfold pageV at T4'
  have E4 := bytes_lit ((padB [97, 98]).take 3) [97, 98, 0]
  rw [decide_eq_true lives5_body] at E4
  generalize (⟨((padB [97, 98]).take 3).toArray⟩ : ByteArray) = s4 at *
  clear hown3 hb3 r4 b4 N3 T4
  have k2 := kc (w2.alloc (.cells #[.int .i64 6, .int .u32 258, .slice A3 4080 c3] 28)) #[.int .u8 97, .int .u8 98] 2 2
  rw [World.size_alloc] at k2
  have HL5 := Lib.hid (Byt.lit (w2.alloc (.cells #[.int .i64 6, .int .u32 258, .slice A3 4080 c3] 28)) 5 [97, 98] (2, 3) (by simp [maxLen]))
  rw [World.size_alloc] at HL5
  unfold pageV
  go_wp2_with fail
  refine (same_any _ 6 258 6 258 _ _ (padB [97, 98]) [97, 98] ((HO3.out.byt.alloc _).alloc _) HL5.out).mono ?_
  rw [padB_trim, show decide ((6 : Int) = 6 ∧ (258 : Int) = 258 ∧ trimR [97, 98] = trimR [97, 98]) = true from by simp]
  rintro e w4 ⟨rfl, hb4⟩
  go_wp2_with fail
  go_ret
  have h5 := HB3.out.alloc HB3.out.size (.cells (pageV 6 258 (.slice A3 4080 c3)) 28)
  have h6 := h5.alloc h5.size (.cells #[.int .u8 97, .int .u8 98] 5 (2, 3))
  exact ⟨rfl, h6.trans (hb4.mono h6.size)⟩
end Go.Proofs.YtagchbpofoidmaaDoor
