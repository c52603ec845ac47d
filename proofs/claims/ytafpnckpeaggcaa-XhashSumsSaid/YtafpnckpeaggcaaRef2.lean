/-
  The document's own word of so many bytes by its contract. Conditions: there are as many bytes.
-/
import Derived.Test.YtafpnckpeaggcaaHx3
namespace Go.Proofs.Ytafpnckpeaggcaa
open Go.RowKit

theorem word_add (m : List UInt8) (k : Nat) (hk : k < m.length) (h8 : k < 8) :
    IntKind.u64.wrap ((wordN (m.take k) : Int) + IntKind.u64.wrap ((m[k].toNat : Int) * 2 ^ (8 * k))) = (wordN (m.take (k + 1)) : Int) := by
  have hx : m[k].toNat < 256 := m[k].toNat_lt
  have ha := wordN_lt (m.take k)
  have hl : (m.take k).length = k := by rw [List.length_take]; omega
  rw [hl] at ha
  have e1 : wordN (m.take (k + 1)) = wordN (m.take k) + m[k].toNat * 256 ^ k := by
    rw [List.take_succ_eq_append_getElem hk, wordN_snoc, hl]
  rw [e1]
  generalize m[k].toNat = x at *
  generalize wordN (m.take k) = a at *
  have e2 : (256 : Nat) ^ k = 2 ^ (8 * k) := by rw [show (256 : Nat) = 2 ^ 8 from rfl, ← Nat.pow_mul]
  rw [e2] at ha ⊢
  have hp : x * 2 ^ (8 * k) + 2 ^ (8 * k) ≤ 18446744073709551616 := by
    have e : x * 2 ^ (8 * k) + 2 ^ (8 * k) = (x + 1) * 2 ^ (8 * k) := by rw [Nat.add_mul]; omega
    rw [e]
    have hq : (2 : Nat) ^ (8 * k) ≤ 2 ^ 56 := Nat.pow_le_pow_right (by omega) (by omega)
    have := Nat.mul_le_mul (show x + 1 ≤ 256 by omega) hq
    omega
  have h3 : (x : Int) * 2 ^ (8 * k) = ((x * 2 ^ (8 * k) : Nat) : Int) := by push_cast; rfl
  rw [h3, w_nat, Nat.mod_eq_of_lt (by omega), ← Int.natCast_add, w_nat, Nat.mod_eq_of_lt (by omega)]

def RefWRel (m : List UInt8) (n : Nat) (x i : Value) : Prop := ∃ k : Nat, k ≤ n ∧ i = .int .i64 (k : Int) ∧ x = .int .u64 (wordN (m.take k) : Int)

set_option maxRecDepth 100000 in
set_option maxHeartbeats 4000000 in
theorem refword2_any (w : World) (v : Value) (l : List UInt8) (n : Nat) (hv : Byt w v l) (hn : n ≤ l.length) (h8 : n ≤ 8) :
    Calls Try.prog 32 #[v, .int .i64 (n : Int)] w fun e w' => e = .returned (.int .u64 (wordN (l.take n) : Int)) ∧ w = w' := by
  obtain ⟨A, m, c, rfl, N, hnc, hcm⟩ := hv.form
  have HV := Lib.hid hv
  have hnm : n ≤ m := by have := N.out; omega
  clear hv
  go_enter Try.func32, Try.ntmps32
  go_wp2_with fail
  go_loop [5, 6] (fun x i => RefWRel l n x i) (fun _ i => n - (intOf i).toNat)
  case atStart => exact ⟨0, by omega, rfl, rfl⟩
  case round =>
    obtain ⟨k, hk, rfl, rfl⟩ := hrel
    by_cases hlt : k < n
    · have hkl : k < l.length := by omega
      obtain ⟨b, off, rfl, hb, hc⟩ := byt_cells HV.out hkl
      have hcell := hc k hkl
      clear hc
      have hkn : (k : Int) < (m : Int) := by omega
      have hst := word_add l k hkl (by omega)
      have hx : l[k].toNat < 256 := l[k].toNat_lt
      generalize l[k].toNat = x at *
      have HS := Lib.hid hst
      clear hst
      generalize wordN (l.take k) = a at *
      go_wp2_with fail
      go_round
      case rel => exact ⟨k + 1, by omega, by go_num, by rw [HS.out]⟩
      case measure => simp [intOf]; omega
    · obtain rfl : k = n := by omega
      go_wp2_with fail
      go_ret
      exact ⟨rfl, rfl⟩

def StrRel2 (w : World) (s : Nat) (l : List UInt8) (b : Value) (wr : World) : Prop :=
  ∃ (l' : List UInt8) (acc : List Nat), Byt wr b l' ∧ l'.length ≤ 70368744177664 ∧ acc.length = 4 ∧ AllW acc ∧ Arr wr w.heap.size acc ∧ accF (l'.length / 32) acc l' = accF (l.length / 32) (acc0 s) l ∧ l'.drop (32 * (l'.length / 32)) = l.drop (32 * (l.length / 32)) ∧ Below w.heap.size w wr
theorem drop32_next (l : List UInt8) (h : 32 ≤ l.length) : (l.drop 32).drop (32 * ((l.drop 32).length / 32)) = l.drop (32 * (l.length / 32)) := by
  rw [List.drop_drop, List.length_drop]
  congr 1
  omega
theorem addW_zero (x : Nat) (hx : x < 18446744073709551616) : addW 0 x = x := by unfold addW; rw [Nat.zero_add, Nat.mod_eq_of_lt hx]
def RefRel (W : World) (lr : List UInt8) (x0 : Nat) (b h : Value) : Prop :=
  ∃ (l' : List UInt8) (x : Nat), h = .int .u64 (x : Int) ∧ x < 18446744073709551616 ∧ Byt W b l' ∧ l'.length ≤ 70368744177664 ∧ rest8 (l'.length / 8) x l' = rest8 (lr.length / 8) x0 lr ∧ l'.drop (8 * (l'.length / 8)) = lr.drop (8 * (lr.length / 8))
def InRef (w : World) (ga : Nat) (acc : List Nat) (l : List UInt8) (v : Value) (i : Value) (wr : World) : Prop :=
  ∃ k : Nat, k ≤ 4 ∧ i = .int .i64 (k : Int) ∧ Arr wr ga (accK acc l k) ∧ Byt wr v l ∧ Below w.heap.size w wr

set_option maxRecDepth 100000 in
set_option maxHeartbeats 4000000 in
theorem refsum_small (w : World) (s : Nat) (v : Value) (l : List UInt8) (hv : Byt w v l) (hlen : l.length ≤ 70368744177664) (hl : ¬ 32 ≤ l.length) :
    Calls Try.prog 16 #[.int .u64 (s : Int), v] w (Word64 w (sumW s l)) := by
  obtain ⟨A, n, c, rfl, N, hnc, hcm⟩ := hv.form
  have hn32 : ¬ (32 : Int) ≤ (n : Int) := by have := N.out; omega
  have hnm : (n : Int) ≤ 9223372036854775807 := by omega
  have HV := Lib.hid hv
  have HL := Lib.hid hlen
  have HF : Hid (sumW s l = avalW (restW (addW (addW s xp5) n) l)) := by
    unfold sumW headW
    rw [if_neg hl, ← N.out, show n / 32 = 0 by have := N.out; omega, Nat.mul_zero, List.drop_zero]
    exact rfl
  clear hv hlen hl
  go_enter Try.func16, Try.ntmps16
  go_wp2_with fail
  rw [w_a5, w_add]
  go_loop [1, 6] (fun b h => RefRel w l (addW (addW s xp5) n) b h) (fun b _ => slen b)
  case atStart => exact ⟨l, (addW (addW s xp5) n), rfl, addW_lt _ _, HV.out, HL.out, rfl, rfl⟩
  case round =>
    obtain ⟨l', x, rfl, hx, hb, hl', hr8, hdr⟩ := hrel
    obtain ⟨A', n', c', rfl, N', hnc', hcm'⟩ := hb.form
    by_cases hlt : 8 ≤ l'.length
    · have hn8 : (8 : Int) ≤ (n' : Int) := by have := N'.out; omega
      obtain ⟨A2, n2, c2, r2, b2, N2, l2, m2⟩ := hb.cutrun 27 elemByte sizeByte 8 (by omega) .i64
      have r2' : ∀ W, (Instr.slice 27 (.slice A' n' c') (some (.int .i64 8)) none none).run Try.prog W = .ok (.slice A2 n2 c2) W := r2
      clear r2
      have W8 := Lib.hid (refword2_any w _ l' 8 hb hlt (by omega))
      have X1 := Lib.hid (w_step8 x l' hx)
      have X2 := Lib.hid (rest8_next x l' hlt)
      have X3 := Lib.hid (drop8_next l' hlt)
      have HX := Lib.hid hx
      have HB2 := Lib.hid b2
      have HR8 := Lib.hid hr8
      have HDR := Lib.hid hdr
      have Hl' := Lib.hid hl'
      clear hx b2 hr8 hdr hb hl'
      go_wp2_with fail
      refine (W8.out).mono ?_
      rintro e w8 ⟨rfl, rfl⟩
      go_wp2_with fail
      refine (refround_any 0 _ _).mono ?_
      rintro e w8 ⟨rfl, rfl⟩
      go_wp2_with fail
      rw [X1.out]
      refine (refrot_any _ 27 _ (xor_lt HX.out (roundW_lt _ _)) (by omega)).mono ?_
      rintro e w8 ⟨rfl, rfl⟩
      go_wp2_with fail
      go_round
      case rel => exact ⟨l'.drop 8, step8 x l', by rw [w_p1, w_a4, step8_is], step8_lt _ _, HB2.out, by rw [List.length_drop]; have := Hl'.out; omega, by rw [← X2.out]; exact HR8.out, by rw [X3.out]; exact HDR.out⟩
      case measure => have := N2.out; simp only [slen]; omega
    · have hn8 : ¬ (8 : Int) ≤ (n' : Int) := by have := N'.out; omega
      rw [show l'.length / 8 = 0 by omega, rest8] at hr8
      rw [show l'.length / 8 = 0 by omega, Nat.mul_zero, List.drop_zero] at hdr
      have hfin : restW (addW (addW s xp5) n) l = rest4 x l' := by unfold restW; rw [← hr8, ← hdr]
      clear hr8 hdr
      by_cases hlt4 : 4 ≤ l'.length
      · have hn4 : (4 : Int) ≤ (n' : Int) := by have := N'.out; omega
        obtain ⟨A2, n2, c2, r2, b2, N2, l2, m2⟩ := hb.cutrun 27 elemByte sizeByte 4 (by omega) .i64
        have r2' : ∀ W, (Instr.slice 27 (.slice A' n' c') (some (.int .i64 4)) none none).run Try.prog W = .ok (.slice A2 n2 c2) W := r2
        clear r2
        have W8 := Lib.hid (refword2_any w _ l' 4 hb hlt4 (by omega))
        have X1 := Lib.hid (w_xor x (mulW (wordN (l'.take 4)) xp1) hx (mulW_lt _ _))
        have HX := Lib.hid hx
        have HB2 := Lib.hid b2
        have HF : Hid (sumW s l = avalW (rest1 (step4 x l') (l'.drop 4))) := by rw [HF.out, hfin, rest4, if_pos hlt4]; exact rfl
        have hl4 : (l'.drop 4).length ≤ 8 := by rw [List.length_drop]; omega
        have HN2 : Hid (n2 = (l'.drop 4).length) := by have := N'.out; have := N2.out; rw [List.length_drop]; exact (show n2 = l'.length - 4 by omega)
        have hn2m : (n2 : Int) ≤ 9223372036854775807 := by omega
        clear hx b2 hb hl' hfin
        go_wp2_with fail
        refine (W8.out).mono ?_
        rintro e w8 ⟨rfl, rfl⟩
        go_wp2_with fail
        rw [w_p1, X1.out]
        refine (refrot_any _ 23 _ (xor_lt HX.out (mulW_lt _ _)) (by omega)).mono ?_
        rintro e w8 ⟨rfl, rfl⟩
        go_wp2_with fail
        rw [w_p2, w_a3, step4_is]
        have HLT4 := Lib.hid (step4_lt x l')
        clear W8 X1
        generalize step4 x l' = y at *
        generalize l'.drop 4 = lt at *
        go_wp2_with fail
        go_loop [6, 10] (fun h i => TailRel y lt h i) (fun _ i => lt.length - (intOf i).toNat)
        case atStart => exact ⟨0, by omega, rfl, by rw [List.take_zero, rest1_nil]⟩
        case round =>
          obtain ⟨k, hk, rfl, rfl⟩ := hrel
          by_cases hlt : k < lt.length
          · obtain ⟨b, off, rfl, hb, hc⟩ := byt_cells HB2.out hlt
            have hcell := hc k hlt
            clear hc
            have hkn : (k : Int) < (n2 : Int) := by have := HN2.out; omega
            have hkn' : k < n2 := by have := HN2.out; omega
            have hkc : (k : Int) ≤ 70368744177664 := by omega
            have hst := rest1_snoc y lt k hlt
            have hbx : lt[k].toNat < 256 := lt[k].toNat_lt
            have HS := Lib.hid hst
            have HK := Lib.hid (rest1_lt y (lt.take k) HLT4.out)
            clear hst
            unfold step1 at HS
            generalize lt[k].toNat = x1 at *
            generalize rest1 y (lt.take k) = y1 at *
            go_wp2_with fail
            rw [w_p5, w_xor _ _ HK.out (mulW_lt _ _)]
            refine (refrot_any _ 11 _ (xor_lt HK.out (mulW_lt _ _)) (by omega)).mono ?_
            rintro e w9 ⟨rfl, rfl⟩
            go_wp2_with fail
            go_round
            case rel => exact ⟨k + 1, by omega, by go_num, by rw [HS.out, w_p1]⟩
            case measure => simp [intOf]; omega
          · have hfin : lt.take k = lt := List.take_of_length_le (by omega)
            have hkn : ¬ (k : Int) < (n2 : Int) := by have := HN2.out; omega
            have HK := Lib.hid (rest1_lt y lt HLT4.out)
            rw [hfin]
            clear hfin
            go_wp2_with fail
            refine (refaval_any _ _ HK.out).mono ?_
            rintro e w9 ⟨rfl, rfl⟩
            go_wp2_with fail
            go_ret
            exact ⟨ret_int (by rw [HF.out]), Below.refl _ _⟩
      · have hn4 : ¬ (4 : Int) ≤ (n' : Int) := by have := N'.out; omega
        have HF : Hid (sumW s l = avalW (rest1 x l')) := by rw [HF.out, hfin, rest4, if_neg hlt4]; exact rfl
        have HX := Lib.hid hx
        have HB := Lib.hid hb
        have hl4 : l'.length ≤ 8 := by omega
        clear hx hb hl' hfin hlt hlt4
        go_wp2_with fail
        go_loop [6, 10] (fun h i => TailRel x l' h i) (fun _ i => l'.length - (intOf i).toNat)
        case atStart => exact ⟨0, by omega, rfl, by rw [List.take_zero, rest1_nil]⟩
        case round =>
          obtain ⟨k, hk, rfl, rfl⟩ := hrel
          by_cases hlt : k < l'.length
          · obtain ⟨b, off, rfl, hb, hc⟩ := byt_cells HB.out hlt
            have hcell := hc k hlt
            clear hc
            have hkn : (k : Int) < (n' : Int) := by have := N'.out; omega
            have hkn' : k < n' := by have := N'.out; omega
            have hkc : (k : Int) ≤ 70368744177664 := by omega
            have hst := rest1_snoc x l' k hlt
            have hbx : l'[k].toNat < 256 := l'[k].toNat_lt
            have HS := Lib.hid hst
            have HK := Lib.hid (rest1_lt x (l'.take k) HX.out)
            clear hst
            unfold step1 at HS
            generalize l'[k].toNat = x1 at *
            generalize rest1 x (l'.take k) = y1 at *
            go_wp2_with fail
            rw [w_p5, w_xor _ _ HK.out (mulW_lt _ _)]
            refine (refrot_any _ 11 _ (xor_lt HK.out (mulW_lt _ _)) (by omega)).mono ?_
            rintro e w9 ⟨rfl, rfl⟩
            go_wp2_with fail
            go_round
            case rel => exact ⟨k + 1, by omega, by go_num, by rw [HS.out, w_p1]⟩
            case measure => simp [intOf]; omega
          · have hfin : l'.take k = l' := List.take_of_length_le (by omega)
            have hkn : ¬ (k : Int) < (n' : Int) := by have := N'.out; omega
            have HK := Lib.hid (rest1_lt x l' HX.out)
            rw [hfin]
            clear hfin
            go_wp2_with fail
            refine (refaval_any _ _ HK.out).mono ?_
            rintro e w9 ⟨rfl, rfl⟩
            go_wp2_with fail
            go_ret
            exact ⟨ret_int (by rw [HF.out]), Below.refl _ _⟩

set_option maxRecDepth 100000 in
set_option maxHeartbeats 8000000 in
theorem refsum_big (w : World) (s : Nat) (v : Value) (l : List UInt8) (hv : Byt w v l) (hs : s < 18446744073709551616) (hlen : l.length ≤ 70368744177664) (hl : 32 ≤ l.length) :
    Calls Try.prog 16 #[.int .u64 (s : Int), v] w (Word64 w (sumW s l)) := by
  obtain ⟨A, n, c, rfl, N, hnc, hcm⟩ := hv.form
  have hn32 : (32 : Int) ≤ (n : Int) := by have := N.out; omega
  have hnm : (n : Int) ≤ 9223372036854775807 := by omega
  have HV := Lib.hid hv
  have HL := Lib.hid hlen
  have HA := Lib.hid (acc0_all s hs)
  have HF0 : Hid (sumW s l = avalW (restW (addW (endAcc (accF (l.length / 32) (acc0 s) l)) n) (l.drop (32 * (l.length / 32))))) := by
    unfold sumW headW stripesW
    rw [if_pos hl, ← N.out]
    exact rfl
  clear hv hs hlen hl
  go_enter Try.func16, Try.ntmps16
  go_wp2_with fail
  rw [w_a1, w_a2, w_a2, w_s1]
  go_loopw [1] (fun b wr => StrRel2 w s l b wr) (fun b _ => slen b)
  case atStart => exact ⟨l, acc0 s, HV.out.alloc _, HL.out, rfl, HA.out, heap_alloc_new w _, rfl, rfl, below_new w _⟩
  case round =>
    obtain ⟨l', acc, hb, hl', ha4, hall, harr, hacc, hrest, hbel⟩ := hrel
    obtain ⟨A', n', c', rfl, N', hnc', hcm'⟩ := hb.form
    by_cases hlt : 32 ≤ l'.length
    · have hn8 : (32 : Int) ≤ (n' : Int) := by have := N'.out; omega
      obtain ⟨A2, n2, c2, r2, b2, N2, l2, m2⟩ := hb.cutrun 27 elemByte sizeByte 32 (by omega) .i64
      have r2' : ∀ W, (Instr.slice 27 (.slice A' n' c') (some (.int .i64 32)) none none).run Try.prog W = .ok (.slice A2 n2 c2) W := r2
      have X2 := Lib.hid (acc_next acc l' hlt)
      have X3 := Lib.hid (drop32_next l' hlt)
      have HB := Lib.hid hb
      have HACC := Lib.hid hacc
      have HREST := Lib.hid hrest
      have HARR := Lib.hid harr
      have HALL := Lib.hid hall
      have HA4 := Lib.hid ha4
      have HBel := Lib.hid hbel
      have Hl' := Lib.hid hl'
      clear r2 b2 hacc hrest hb hbel hl' harr hall ha4
      go_wp2_with fail
      go_loopw [8] (fun i wr => InRef w w.heap.size acc l' (.slice A' n' c') i wr) (fun i _ => 4 - (intOf i).toNat)
      case atStart => exact ⟨0, by omega, rfl, HARR.out, HB.out, HBel.out⟩
      case round =>
        obtain ⟨k, hk, rfl, harr, hby, hbel⟩ := hrel
        by_cases hk4 : k < 4
        · have hk4' : (k : Int) < 4 := by omega
          have hk0 : (0 : Int) ≤ (k : Int) := by omega
          have HC := Lib.hid (harr.cell k (by rw [accK_len, HA4.out]; exact hk4))
          obtain ⟨A3, n3, c3, r3, b3, N3, l3, m3⟩ := hby.cutrun 27 elemByte sizeByte (8 * k) (by have := N'.out; omega) .i64
          have r3' : ∀ W, (Instr.slice 27 (.slice A' n' c') (some (.int .i64 (8 * (k : Int)))) none none).run Try.prog W = .ok (.slice A3 n3 c3) W := by
            rw [show ((8 * k : Nat) : Int) = 8 * (k : Int) by omega] at r3; exact r3
          have HM := Lib.hid (show IntKind.i64.wrap (8 * (k : Int)) = 8 * (k : Int) from IntWalk.i64_in _ (by omega))
          have W8 := Lib.hid (show Calls Try.prog 32 #[.slice A3 n3 c3, .int .i64 8] wr.drew _ from refword2_any wr.drew _ (l'.drop (8 * k)) 8 b3.drew (by rw [List.length_drop]; omega) (by omega))
          have HARR2 := Lib.hid (show Arr wr.drew _ _ from harr)
          have HBY := Lib.hid (show Byt wr.drew _ _ from hby.drew)
          have HBE := Lib.hid hbel.drew
          have HC := Lib.hid (show wr.drew.cell? _ = _ from HC.out)
          have HAK := Lib.hid (accK_succ acc l' k)
          clear harr hby hbel b3 r3
          generalize (accK acc l' k).getD k 0 = ak at *
          generalize accK acc l' k = acck at *
          generalize wordN ((l'.drop (8 * k)).take 8) = wk at *
          go_wp2_with fail
          refine wp_region_T (R := fun x y => x = y) (by kernel_rfl) (fun _ => rfl) (fun h k => h.trans k) (by kernel_rfl) 11 rfl (by kernel_rfl) (by kernel_rfl) (fun d v c a w h => by cases d <;> exact h)
            [(0, false), (1, false), (2, false), (3, false), (4, false), (5, false), (6, false), (7, false), (8, true), (9, true), (10, false)] rfl (by kernel_rfl) ?_
          simp only [sel, List.getElem?_toArray, List.getElem?_cons_succ, List.getElem?_cons_zero]
          iterate 3 (refine schT_take ?_ rfl ?_ ?_; rotate_left; (focus (intro u hu; go_simp <;> rfl)); simp only [Act.put, List.setIfInBounds_toArray, List.set_cons_zero, List.set_cons_succ])
          (refine schT_take ?_ rfl ?_ ?_; rotate_left; (focus (intro u hu; have hc : u.cell? ⟨w.heap.size, k, none⟩ = some (.int .u64 (ak : Int)) := hu ▸ HC.out; clear hu; go_simp <;> rfl)); simp only [Act.put, List.setIfInBounds_toArray, List.set_cons_zero, List.set_cons_succ])
          iterate 2 (refine schT_take ?_ rfl ?_ ?_; rotate_left; (focus (intro u hu; go_simp <;> rfl)); simp only [Act.put, List.setIfInBounds_toArray, List.set_cons_zero, List.set_cons_succ])
          (refine schT_take (.int .i64 (8 * (k : Int))) rfl ?_ ?_; (focus (intro u hu; have hm := HM.out; go_simp)); simp only [Act.put, List.setIfInBounds_toArray, List.set_cons_zero, List.set_cons_succ])
          (refine schT_take ?_ rfl ?_ ?_; rotate_left; (focus (intro u hu; go_simp <;> rfl)); simp only [Act.put, List.setIfInBounds_toArray, List.set_cons_zero, List.set_cons_succ])
          refine schT_call rfl ?_
          intro K hK
          go_simp
          refine (W8.out).mono ?_
          rintro e w2 ⟨rfl, rfl⟩
          go_wp2_with fail
          refine hK _ _ rfl ?_
          clear hK K
          refine schT_call rfl ?_
          intro K hK
          go_simp
          refine (refround_any ak _ _).mono ?_
          rintro e w3 ⟨rfl, rfl⟩
          go_wp2_with fail
          refine hK _ _ rfl ?_
          clear hK K
          (refine schT_take ?_ rfl ?_ ?_; rotate_left; (focus (intro u hu; go_simp <;> rfl)); simp only [Act.put, List.setIfInBounds_toArray, List.set_cons_zero, List.set_cons_succ])
          refine schT_nil ?_
          have hfz := HARR2.out.frozen k
          have hc3 := HC.out
          refine schT_last rfl rfl ?_
          generalize wr.drew = wd at *
          go_simp
          go_wp2_with fail
          go_roundw
          case rel => exact ⟨k + 1, by omega, by go_num, by rw [← HAK.out]; exact HARR2.out.set k _, HBY.out.arr HARR2.out k _, HBE.out.setCell (by simp) _⟩
          case measure => simp [intOf]; omega
        · obtain rfl : k = 4 := by omega
          obtain ⟨A5, n5, c5, r5, b5, N5, l5, m5⟩ := hby.cutrun 27 elemByte sizeByte 32 (by have := N'.out; omega) .i64
          have e5 : Value.slice A2 n2 c2 = .slice A5 n5 c5 := by have h1 := r2' wr; have h2 := r5 wr; rw [show ((32 : Nat) : Int) = 32 from rfl, h1] at h2; injection h2
          rw [← e5] at b5
          have HB5 := Lib.hid b5
          have HARR2 := Lib.hid harr
          have HBE := Lib.hid hbel
          clear harr hby hbel b5 e5 r5
          go_wp2_with fail
          go_roundw
          case rel => exact ⟨l'.drop 32, accK acc l' 4, HB5.out, by rw [List.length_drop]; have := Hl'.out; omega, by rw [accK_len]; exact HA4.out, accK_all HALL.out _ _, HARR2.out, by rw [← X2.out]; exact HACC.out, by rw [X3.out]; exact HREST.out, HBE.out⟩
          case measure => have := N2.out; simp only [slen]; omega
    · have hn8 : ¬ (32 : Int) ≤ (n' : Int) := by have := N'.out; omega
      rw [show l'.length / 32 = 0 by omega, accF] at hacc
      rw [show l'.length / 32 = 0 by omega, Nat.mul_zero, List.drop_zero] at hrest
      have hfin : sumW s l = avalW (restW (addW (endAcc acc) n) l') := by rw [HF0.out, ← hacc, ← hrest]
      rw [endAcc_is] at hfin
      have c0 := harr.cell 0 (by omega)
      have c1 := harr.cell 1 (by omega)
      have c2 := harr.cell 2 (by omega)
      have c3 := harr.cell 3 (by omega)
      have A0 := Lib.hid (hall.getD 0)
      have A1 := Lib.hid (hall.getD 1)
      have A2 := Lib.hid (hall.getD 2)
      have A3 := Lib.hid (hall.getD 3)
      rw [addW_zero _ (rotW_lt _ 1 (hall.getD 0))] at hfin
      generalize acc.getD 0 0 = a0 at *
      generalize acc.getD 1 0 = a1 at *
      generalize acc.getD 2 0 = a2 at *
      generalize acc.getD 3 0 = a3 at *
      have HF1 := Lib.hid hfin
      have HB := Lib.hid (show Byt wr.drew _ _ from hb.drew)
      have HBE := Lib.hid hbel.drew
      have Hl' := Lib.hid hl'
      have C0 := Lib.hid (show wr.drew.cell? _ = _ from c0)
      have C1 := Lib.hid (show wr.drew.cell? _ = _ from c1)
      have C2 := Lib.hid (show wr.drew.cell? _ = _ from c2)
      have C3 := Lib.hid (show wr.drew.cell? _ = _ from c3)
      clear hb hl' ha4 hall harr hacc hbel hfin hrest c0 c1 c2 c3
      go_wp2_with fail
      refine wp_region_R (R := fun x y => x = y) (by kernel_rfl) (fun _ => rfl) (fun h k => h.trans k) (by kernel_rfl) (fun d v c a w h => by cases d <;> exact h)
        [(0, false), (1, false), (3, false), (4, false), (7, false), (8, false), (11, false), (12, false), (2, true), (5, true), (6, false), (9, true), (10, false), (13, true), (14, false), (15, false)] rfl (by kernel_rfl) (by kernel_rfl) ?_
      simp only [sel, List.getElem?_toArray, List.getElem?_cons_succ, List.getElem?_cons_zero]
      generalize wr.drew = wd at *
      (refine sch_take ?_ rfl ?_ ?_; rotate_left; (focus (intro u hu; go_simp <;> rfl)); simp only [Act.put, List.setIfInBounds_toArray, List.set_cons_zero, List.set_cons_succ])
      (refine sch_take ?_ rfl ?_ ?_; rotate_left; (focus (intro u hu; have hc := hu ▸ C0.out; clear hu; go_simp <;> rfl)); simp only [Act.put, List.setIfInBounds_toArray, List.set_cons_zero, List.set_cons_succ])
      (refine sch_take ?_ rfl ?_ ?_; rotate_left; (focus (intro u hu; go_simp <;> rfl)); simp only [Act.put, List.setIfInBounds_toArray, List.set_cons_zero, List.set_cons_succ])
      (refine sch_take ?_ rfl ?_ ?_; rotate_left; (focus (intro u hu; have hc := hu ▸ C1.out; clear hu; go_simp <;> rfl)); simp only [Act.put, List.setIfInBounds_toArray, List.set_cons_zero, List.set_cons_succ])
      (refine sch_take ?_ rfl ?_ ?_; rotate_left; (focus (intro u hu; go_simp <;> rfl)); simp only [Act.put, List.setIfInBounds_toArray, List.set_cons_zero, List.set_cons_succ])
      (refine sch_take ?_ rfl ?_ ?_; rotate_left; (focus (intro u hu; have hc := hu ▸ C2.out; clear hu; go_simp <;> rfl)); simp only [Act.put, List.setIfInBounds_toArray, List.set_cons_zero, List.set_cons_succ])
      (refine sch_take ?_ rfl ?_ ?_; rotate_left; (focus (intro u hu; go_simp <;> rfl)); simp only [Act.put, List.setIfInBounds_toArray, List.set_cons_zero, List.set_cons_succ])
      (refine sch_take ?_ rfl ?_ ?_; rotate_left; (focus (intro u hu; have hc := hu ▸ C3.out; clear hu; go_simp <;> rfl)); simp only [Act.put, List.setIfInBounds_toArray, List.set_cons_zero, List.set_cons_succ])
      refine sch_call rfl ?_
      intro K hK
      go_simp
      refine (refrot_any a0 1 _ A0.out (by omega)).mono ?_
      rintro e w2 ⟨rfl, rfl⟩
      go_wp2_with fail
      refine hK _ _ rfl ?_
      clear hK K
      refine sch_call rfl ?_
      intro K hK
      go_simp
      refine (refrot_any a1 7 _ A1.out (by omega)).mono ?_
      rintro e w2 ⟨rfl, rfl⟩
      go_wp2_with fail
      refine hK _ _ rfl ?_
      clear hK K
      (refine sch_take ?_ rfl ?_ ?_; rotate_left; (focus (intro u hu; go_simp <;> rfl)); simp only [Act.put, List.setIfInBounds_toArray, List.set_cons_zero, List.set_cons_succ])
      refine sch_call rfl ?_
      intro K hK
      go_simp
      refine (refrot_any a2 12 _ A2.out (by omega)).mono ?_
      rintro e w2 ⟨rfl, rfl⟩
      go_wp2_with fail
      refine hK _ _ rfl ?_
      clear hK K
      (refine sch_take ?_ rfl ?_ ?_; rotate_left; (focus (intro u hu; go_simp <;> rfl)); simp only [Act.put, List.setIfInBounds_toArray, List.set_cons_zero, List.set_cons_succ])
      refine sch_call rfl ?_
      intro K hK
      go_simp
      refine (refrot_any a3 18 _ A3.out (by omega)).mono ?_
      rintro e w2 ⟨rfl, rfl⟩
      go_wp2_with fail
      refine hK _ _ rfl ?_
      clear hK K
      (refine sch_take ?_ rfl ?_ ?_; rotate_left; (focus (intro u hu; go_simp <;> rfl)); simp only [Act.put, List.setIfInBounds_toArray, List.set_cons_zero, List.set_cons_succ])
      (refine sch_take ?_ rfl ?_ ?_; rotate_left; (focus (intro u hu; go_simp <;> rfl)); simp only [Act.put, List.setIfInBounds_toArray, List.set_cons_zero, List.set_cons_succ])
      refine sch_nil ?_
      rw [w_add, w_add, w_add]
      have hc0 := C0.out
      have hc1 := C1.out
      have hc2 := C2.out
      have hc3 := C3.out
      generalize hsum : addW (addW (addW (rotW a0 1) (rotW a1 7)) (rotW a2 12)) (rotW a3 18) = sm at *
      have HS : Hid (sm < 18446744073709551616) := by rw [← hsum]; exact addW_lt _ _
      clear hsum
      go_wp2_with fail
      refine wp_loop_rounds 5 ?_
      rw [rounds_succ]
      go_wp2_with fail
      refine (refmerge_any _ a0 _ HS.out).mono ?_
      rintro e w5 ⟨rfl, rfl⟩
      go_wp2_with fail
      rw [rounds_succ]
      go_wp2_with fail
      refine (refmerge_any _ a1 _ (mergeW_lt _ _)).mono ?_
      rintro e w5 ⟨rfl, rfl⟩
      go_wp2_with fail
      rw [rounds_succ]
      go_wp2_with fail
      refine (refmerge_any _ a2 _ (mergeW_lt _ _)).mono ?_
      rintro e w5 ⟨rfl, rfl⟩
      go_wp2_with fail
      rw [rounds_succ]
      go_wp2_with fail
      refine (refmerge_any _ a3 _ (mergeW_lt _ _)).mono ?_
      rintro e w5 ⟨rfl, rfl⟩
      go_wp2_with fail
      rw [rounds_succ]
      go_wp2_with fail
      rw [w_add]
      clear hc0 hc1 hc2 hc3
      generalize mergeW (mergeW (mergeW (mergeW sm a0) a1) a2) a3 = hd at *
      clear N' hn8 hlt hnc' hcm'
      go_loop [1, 6] (fun b h => RefRel wd l' (addW hd n) b h) (fun b _ => slen b)
      case atStart => exact ⟨l', (addW hd n), rfl, addW_lt _ _, HB.out, Hl'.out, rfl, rfl⟩
      case round =>
        obtain ⟨lq, x, rfl, hx, hb, hlq, hr8, hdr⟩ := hrel
        obtain ⟨Aq, nq, cq, rfl, Nq, hncq, hcmq⟩ := hb.form
        by_cases hlt : 8 ≤ lq.length
        · have hn8 : (8 : Int) ≤ (nq : Int) := by have := Nq.out; omega
          obtain ⟨A2, n2, c2, r2, b2, N2, l2, m2⟩ := hb.cutrun 27 elemByte sizeByte 8 (by omega) .i64
          have r2' : ∀ W, (Instr.slice 27 (.slice Aq nq cq) (some (.int .i64 8)) none none).run Try.prog W = .ok (.slice A2 n2 c2) W := r2
          clear r2
          have W8 := Lib.hid (refword2_any wd _ lq 8 hb hlt (by omega))
          have X1 := Lib.hid (w_step8 x lq hx)
          have X2 := Lib.hid (rest8_next x lq hlt)
          have X3 := Lib.hid (drop8_next lq hlt)
          have HX := Lib.hid hx
          have HB2 := Lib.hid b2
          have HR8 := Lib.hid hr8
          have HDR := Lib.hid hdr
          have Hlq := Lib.hid hlq
          clear hx b2 hr8 hdr hb hlq
          go_wp2_with fail
          refine (W8.out).mono ?_
          rintro e w8 ⟨rfl, rfl⟩
          go_wp2_with fail
          refine (refround_any 0 _ _).mono ?_
          rintro e w8 ⟨rfl, rfl⟩
          go_wp2_with fail
          rw [X1.out]
          refine (refrot_any _ 27 _ (xor_lt HX.out (roundW_lt _ _)) (by omega)).mono ?_
          rintro e w8 ⟨rfl, rfl⟩
          go_wp2_with fail
          go_round
          case rel => exact ⟨lq.drop 8, step8 x lq, by rw [w_p1, w_a4, step8_is], step8_lt _ _, HB2.out, by rw [List.length_drop]; have := Hlq.out; omega, by rw [← X2.out]; exact HR8.out, by rw [X3.out]; exact HDR.out⟩
          case measure => have := N2.out; simp only [slen]; omega
        · have hn8 : ¬ (8 : Int) ≤ (nq : Int) := by have := Nq.out; omega
          rw [show lq.length / 8 = 0 by omega, rest8] at hr8
          rw [show lq.length / 8 = 0 by omega, Nat.mul_zero, List.drop_zero] at hdr
          have hfin : restW (addW hd n) l' = rest4 x lq := by unfold restW; rw [← hr8, ← hdr]
          clear hr8 hdr
          by_cases hlt4 : 4 ≤ lq.length
          · have hn4 : (4 : Int) ≤ (nq : Int) := by have := Nq.out; omega
            obtain ⟨A2, n2, c2, r2, b2, N2, l2, m2⟩ := hb.cutrun 27 elemByte sizeByte 4 (by omega) .i64
            have r2' : ∀ W, (Instr.slice 27 (.slice Aq nq cq) (some (.int .i64 4)) none none).run Try.prog W = .ok (.slice A2 n2 c2) W := r2
            clear r2
            have W8 := Lib.hid (refword2_any wd _ lq 4 hb hlt4 (by omega))
            have X1 := Lib.hid (w_xor x (mulW (wordN (lq.take 4)) xp1) hx (mulW_lt _ _))
            have HX := Lib.hid hx
            have HB2 := Lib.hid b2
            have HF : Hid (sumW s l = avalW (rest1 (step4 x lq) (lq.drop 4))) := by rw [HF1.out, hfin, rest4, if_pos hlt4]; exact rfl
            have hl4 : (lq.drop 4).length ≤ 8 := by rw [List.length_drop]; omega
            have HN2 : Hid (n2 = (lq.drop 4).length) := by have := Nq.out; have := N2.out; rw [List.length_drop]; exact (show n2 = lq.length - 4 by omega)
            have hn2m : (n2 : Int) ≤ 9223372036854775807 := by omega
            clear hx b2 hb hlq hfin
            go_wp2_with fail
            refine (W8.out).mono ?_
            rintro e w8 ⟨rfl, rfl⟩
            go_wp2_with fail
            rw [w_p1, X1.out]
            refine (refrot_any _ 23 _ (xor_lt HX.out (mulW_lt _ _)) (by omega)).mono ?_
            rintro e w8 ⟨rfl, rfl⟩
            go_wp2_with fail
            rw [w_p2, w_a3, step4_is]
            have HLT4 := Lib.hid (step4_lt x lq)
            clear W8 X1
            generalize step4 x lq = y at *
            generalize lq.drop 4 = lt at *
            go_wp2_with fail
            go_loop [6, 10] (fun h i => TailRel y lt h i) (fun _ i => lt.length - (intOf i).toNat)
            case atStart => exact ⟨0, by omega, rfl, by rw [List.take_zero, rest1_nil]⟩
            case round =>
              obtain ⟨k, hk, rfl, rfl⟩ := hrel
              by_cases hlt : k < lt.length
              · obtain ⟨b, off, rfl, hb, hc⟩ := byt_cells HB2.out hlt
                have hcell := hc k hlt
                clear hc
                have hkn : (k : Int) < (n2 : Int) := by have := HN2.out; omega
                have hknq : k < n2 := by have := HN2.out; omega
                have hkc : (k : Int) ≤ 70368744177664 := by omega
                have hst := rest1_snoc y lt k hlt
                have hbx : lt[k].toNat < 256 := lt[k].toNat_lt
                have HS := Lib.hid hst
                have HK := Lib.hid (rest1_lt y (lt.take k) HLT4.out)
                clear hst
                unfold step1 at HS
                generalize lt[k].toNat = x1 at *
                generalize rest1 y (lt.take k) = y1 at *
                go_wp2_with fail
                rw [w_p5, w_xor _ _ HK.out (mulW_lt _ _)]
                refine (refrot_any _ 11 _ (xor_lt HK.out (mulW_lt _ _)) (by omega)).mono ?_
                rintro e w9 ⟨rfl, rfl⟩
                go_wp2_with fail
                go_round
                case rel => exact ⟨k + 1, by omega, by go_num, by rw [HS.out, w_p1]⟩
                case measure => simp [intOf]; omega
              · have hfin : lt.take k = lt := List.take_of_length_le (by omega)
                have hkn : ¬ (k : Int) < (n2 : Int) := by have := HN2.out; omega
                have HK := Lib.hid (rest1_lt y lt HLT4.out)
                rw [hfin]
                clear hfin
                go_wp2_with fail
                refine (refaval_any _ _ HK.out).mono ?_
                rintro e w9 ⟨rfl, rfl⟩
                go_wp2_with fail
                go_ret
                exact ⟨ret_int (by rw [HF.out]), HBE.out⟩
          · have hn4 : ¬ (4 : Int) ≤ (nq : Int) := by have := Nq.out; omega
            have HF : Hid (sumW s l = avalW (rest1 x lq)) := by rw [HF1.out, hfin, rest4, if_neg hlt4]; exact rfl
            have HX := Lib.hid hx
            have HB := Lib.hid hb
            have hl4 : lq.length ≤ 8 := by omega
            clear hx hb hlq hfin hlt hlt4
            go_wp2_with fail
            go_loop [6, 10] (fun h i => TailRel x lq h i) (fun _ i => lq.length - (intOf i).toNat)
            case atStart => exact ⟨0, by omega, rfl, by rw [List.take_zero, rest1_nil]⟩
            case round =>
              obtain ⟨k, hk, rfl, rfl⟩ := hrel
              by_cases hlt : k < lq.length
              · obtain ⟨b, off, rfl, hb, hc⟩ := byt_cells HB.out hlt
                have hcell := hc k hlt
                clear hc
                have hkn : (k : Int) < (nq : Int) := by have := Nq.out; omega
                have hknq : k < nq := by have := Nq.out; omega
                have hkc : (k : Int) ≤ 70368744177664 := by omega
                have hst := rest1_snoc x lq k hlt
                have hbx : lq[k].toNat < 256 := lq[k].toNat_lt
                have HS := Lib.hid hst
                have HK := Lib.hid (rest1_lt x (lq.take k) HX.out)
                clear hst
                unfold step1 at HS
                generalize lq[k].toNat = x1 at *
                generalize rest1 x (lq.take k) = y1 at *
                go_wp2_with fail
                rw [w_p5, w_xor _ _ HK.out (mulW_lt _ _)]
                refine (refrot_any _ 11 _ (xor_lt HK.out (mulW_lt _ _)) (by omega)).mono ?_
                rintro e w9 ⟨rfl, rfl⟩
                go_wp2_with fail
                go_round
                case rel => exact ⟨k + 1, by omega, by go_num, by rw [HS.out, w_p1]⟩
                case measure => simp [intOf]; omega
              · have hfin : lq.take k = lq := List.take_of_length_le (by omega)
                have hkn : ¬ (k : Int) < (nq : Int) := by have := Nq.out; omega
                have HK := Lib.hid (rest1_lt x lq HX.out)
                rw [hfin]
                clear hfin
                go_wp2_with fail
                refine (refaval_any _ _ HK.out).mono ?_
                rintro e w9 ⟨rfl, rfl⟩
                go_wp2_with fail
                go_ret
                exact ⟨ret_int (by rw [HF.out]), HBE.out⟩

theorem refsum_any (w : World) (s : Nat) (v : Value) (l : List UInt8) (hv : Byt w v l) (hs : s < 18446744073709551616) (hlen : l.length ≤ 70368744177664) :
    Calls Try.prog 16 #[.int .u64 (s : Int), v] w (Word64 w (sumW s l)) := by
  by_cases h : 32 ≤ l.length
  · exact refsum_big w s v l hv hs hlen h
  · exact refsum_small w s v l hv hlen h
end Go.Proofs.Ytafpnckpeaggcaa
