/-
  xhash.rest by its contract: what it answers is the plain function; it writes nothing that was there. Conditions: the bytes are fewer than 2^46.
-/
import Derived.Test.YtafpnckpeaggcaaHx1
namespace Go.Proofs.Ytafpnckpeaggcaa
open Go.RowKit

/-- What a call that answers a word leaves. -/
def Word64 (w : World) (n : Nat) (e : Ending) (w' : World) : Prop := e = .returned (.int .u64 (n : Int)) ∧ Below w.heap.size w w'

def slen : Value → Nat
  | .slice _ n _ => n
  | _ => 0

theorem rest8_next (x : Nat) (l : List UInt8) (h : 8 ≤ l.length) : rest8 (l.length / 8) x l = rest8 ((l.drop 8).length / 8) (step8 x l) (l.drop 8) := by
  rw [List.length_drop, show l.length / 8 = (l.length - 8) / 8 + 1 by omega, rest8]
theorem drop8_next (l : List UInt8) (h : 8 ≤ l.length) : (l.drop 8).drop (8 * ((l.drop 8).length / 8)) = l.drop (8 * (l.length / 8)) := by
  rw [List.drop_drop, List.length_drop]
  congr 1
  omega

/-- One read of a word of eight, or four, bytes by a reader of its own. -/
theorem wordR_8 (l : List UInt8) (h : l.length = 8) : wordR l 0 8 = (wordN l, [], 0) := by
  unfold wordR takeB
  rw [if_neg (by omega), if_pos (by omega)]
  simp [h, List.take_of_length_le, List.drop_eq_nil_of_le]
theorem wordR_4 (l : List UInt8) (h : l.length = 4) : wordR l 0 4 = (wordN l, [], 0) := by
  unfold wordR takeB
  rw [if_neg (by omega), if_pos (by omega)]
  simp [h, List.take_of_length_le, List.drop_eq_nil_of_le]
theorem w_step8 (x : Nat) (l : List UInt8) (hx : x < 18446744073709551616) : bits .xor .u64 (x : Int) (roundW 0 (wordN (l.take 8)) : Int) = ((x ^^^ roundW 0 (wordN (l.take 8)) : Nat) : Int) := w_xor _ _ hx (roundW_lt _ _)

theorem byt_cells {w : World} {A : Option Addr} {n c k : Nat} {l : List UInt8} (h : Byt w (.slice A n c) l) (hk : k < l.length) :
    ∃ b off, A = some ⟨b, off, none⟩ ∧ b < w.heap.size ∧ ∀ j (hj : j < l.length), w.cell? ⟨b, off + j, none⟩ = some (.int .u8 (l[j].toNat : Int)) := by
  obtain ⟨A', c', hv, h1, h2, h3⟩ := h
  injection hv with e1 e2 e3
  subst e1
  rcases h3 with h3 | h3
  · subst h3; simp at hk
  · exact h3

def RestRel (w : World) (l : List UInt8) (h0 : Nat) (h b : Value) (wr : World) : Prop :=
  ∃ (l' : List UInt8) (x : Nat), h = .int .u64 (x : Int) ∧ x < 18446744073709551616 ∧ Byt wr b l' ∧ l'.length ≤ 70368744177664 ∧ rest8 (l'.length / 8) x l' = rest8 (l.length / 8) h0 l ∧ l'.drop (8 * (l'.length / 8)) = l.drop (8 * (l.length / 8)) ∧ Below w.heap.size w wr
def TailRel (x : Nat) (l : List UInt8) (h i : Value) : Prop := ∃ k : Nat, k ≤ l.length ∧ i = .int .i64 (k : Int) ∧ h = .int .u64 (rest1 x (l.take k) : Int)

set_option maxRecDepth 100000 in
set_option maxHeartbeats 4000000 in
theorem rest_any (w : World) (h0 : Nat) (v : Value) (l : List UInt8) (hv : Byt w v l) (hh : h0 < 18446744073709551616) (hlen : l.length ≤ 70368744177664) :
    Calls Try.prog 31 #[.int .u64 (h0 : Int), v] w (Word64 w (restW h0 l)) := by
  have HV := Lib.hid hv
  have HH := Lib.hid hh
  have HL := Lib.hid hlen
  clear hv hh hlen
  go_enter Try.func31, Try.ntmps31
  go_wp2_with fail
  go_loopw [0, 1] (fun h b wr => RestRel w l h0 h b wr) (fun _ b _ => slen b)
  case atStart => exact ⟨l, h0, rfl, HH.out, HV.out, HL.out, rfl, rfl, Below.refl _ _⟩
  case round =>
    obtain ⟨l', x, rfl, hx, hb, hl', hr8, hdr, hbel⟩ := hrel
    obtain ⟨A, n, c, rfl, N, hnc, hcm⟩ := hb.form
    by_cases hlt : 8 ≤ l'.length
    · have hn8 : (8 : Int) ≤ (n : Int) := by have := N.out; omega
      have b1 := hb.upto (k := 8) (by omega)
      obtain ⟨A2, n2, c2, r2, b2, N2, l2, m2⟩ := hb.cutrun 27 elemByte sizeByte 8 (by omega) .i64
      have r2' : ∀ W, (Instr.slice 27 (.slice A n c) (some (.int .i64 8)) none none).run Try.prog W = .ok (.slice A2 n2 c2) W := r2
      clear r2
      have H8 : (l'.take 8).length = 8 := by rw [List.length_take]; omega
      have R8 := Lib.hid (wordR_8 _ H8)
      have X1 := Lib.hid (w_step8 x l' hx)
      have X2 := Lib.hid (rest8_next x l' hlt)
      have X3 := Lib.hid (drop8_next l' hlt)
      have HX := Lib.hid hx
      have HB1 := Lib.hid b1
      have HB2 := Lib.hid b2
      have HR8 := Lib.hid hr8
      have HDR := Lib.hid hdr
      have HBel := Lib.hid hbel
      have HH8 := Lib.hid H8
      have Hl' := Lib.hid hl'
      clear hx b1 b2 hr8 hdr hb hbel H8 hl'
      go_wp2_with fail
      refine (new_any _ _ (l'.take 8) HB1.out (by have := HH8.out; omega)).mono ?_
      rintro e w1 ⟨g, rfl, hg, hr1, hb1⟩
      have HR1 := Lib.hid hr1
      have hbel1 := HBel.out.trans (hb1.mono HBel.out.size)
      have hgw : w.heap.size ≤ g := Nat.le_trans HBel.out.size hg
      have HB2a := Lib.hid (HB2.out.below hb1)
      clear hr1 hb1
      go_wp2_with fail
      refine (rword_is _ g 0 (l'.take 8) 8 HR1.out (by have := HH8.out; omega)).mono ?_
      rw [R8.out]
      rintro e w2 ⟨rfl, hr2, hg2⟩
      have hbel2 : Below w.heap.size w w2 := hbel1.grown hg2 hbel1.size (by rintro k ⟨rfl⟩; exact hgw)
      have HB2b := Lib.hid (HB2a.out.reader HR1.out hg2)
      clear hr2 hg2
      go_wp2_with fail
      refine (round_any 0 _ _).mono ?_
      rintro e w3 ⟨rfl, rfl⟩
      go_wp2_with fail
      rw [X1.out]
      refine (rotl_any _ 27 _ (xor_lt HX.out (roundW_lt _ _)) (by omega)).mono ?_
      rintro e w3 ⟨rfl, rfl⟩
      go_wp2_with fail
      go_roundw
      case rel => exact ⟨l'.drop 8, step8 x l', by rw [w_p1, w_a4, step8_is], step8_lt _ _, HB2b.out, by rw [List.length_drop]; have := Hl'.out; omega, by rw [← X2.out]; exact HR8.out, by rw [X3.out]; exact HDR.out, hbel2⟩
      case measure => have := N2.out; simp only [slen]; omega
    · have hn8 : ¬ (8 : Int) ≤ (n : Int) := by have := N.out; omega
      rw [show l'.length / 8 = 0 by omega, rest8] at hr8
      rw [show l'.length / 8 = 0 by omega, Nat.mul_zero, List.drop_zero] at hdr
      have hfin : restW h0 l = rest4 x l' := by unfold restW; rw [← hr8, ← hdr]
      clear hr8 hdr
      by_cases hlt4 : 4 ≤ l'.length
      · have hn4 : (4 : Int) ≤ (n : Int) := by have := N.out; omega
        have b1 := hb.upto (k := 4) (by omega)
        obtain ⟨A2, n2, c2, r2, b2, N2, l2, m2⟩ := hb.cutrun 27 elemByte sizeByte 4 (by omega) .i64
        have r2' : ∀ W, (Instr.slice 27 (.slice A n c) (some (.int .i64 4)) none none).run Try.prog W = .ok (.slice A2 n2 c2) W := r2
        clear r2
        have H8 : (l'.take 4).length = 4 := by rw [List.length_take]; omega
        have R8 := Lib.hid (wordR_4 _ H8)
        have X1 := Lib.hid (w_xor x (mulW (wordN (l'.take 4)) xp1) hx (mulW_lt _ _))
        have HX := Lib.hid hx
        have HB1 := Lib.hid b1
        have HB2 := Lib.hid b2
        have HBel := Lib.hid hbel
        have HH8 := Lib.hid H8
        have HF : Hid (restW h0 l = rest1 (step4 x l') (l'.drop 4)) := by rw [hfin, rest4, if_pos hlt4]; exact rfl
        have hl4 : (l'.drop 4).length ≤ 8 := by rw [List.length_drop]; omega
        have HN2 : Hid (n2 = (l'.drop 4).length) := by have := N.out; have := N2.out; rw [List.length_drop]; exact (show n2 = l'.length - 4 by omega)
        have hn2m : (n2 : Int) ≤ 9223372036854775807 := by omega
        clear hx b1 b2 hb hbel H8 hl' hfin
        go_wp2_with fail
        refine (new_any _ _ (l'.take 4) HB1.out (by have := HH8.out; omega)).mono ?_
        rintro e w1 ⟨g, rfl, hg, hr1, hb1⟩
        have HR1 := Lib.hid hr1
        have hbel1 := HBel.out.trans (hb1.mono HBel.out.size)
        have hgw : w.heap.size ≤ g := Nat.le_trans HBel.out.size hg
        have HB2a := Lib.hid (HB2.out.below hb1)
        clear hr1 hb1
        go_wp2_with fail
        refine (rword_is _ g 0 (l'.take 4) 4 HR1.out (by have := HH8.out; omega)).mono ?_
        rw [R8.out]
        rintro e w2 ⟨rfl, hr2, hg2⟩
        have HBelE : Hid (Below w.heap.size w w2) := hbel1.grown hg2 hbel1.size (by rintro k ⟨rfl⟩; exact hgw)
        have HB2b := Lib.hid (HB2a.out.reader HR1.out hg2)
        clear hr2 hg2 hbel1 hgw
        go_wp2_with fail
        rw [w_p1, X1.out]
        refine (rotl_any _ 23 _ (xor_lt HX.out (mulW_lt _ _)) (by omega)).mono ?_
        rintro e w3 ⟨rfl, rfl⟩
        go_wp2_with fail
        rw [w_p2, w_a3, step4_is]
        have HLT4 := Lib.hid (step4_lt x l')
        generalize step4 x l' = y at *
        generalize l'.drop 4 = lt at *
        go_wp2_with fail
        go_loop [0, 41] (fun h i => TailRel y lt h i) (fun _ i => lt.length - (intOf i).toNat)
        case atStart => exact ⟨0, by omega, rfl, by rw [List.take_zero, rest1_nil]⟩
        case round =>
          obtain ⟨k, hk, rfl, rfl⟩ := hrel
          by_cases hlt : k < lt.length
          · obtain ⟨b, off, rfl, hb, hc⟩ : ∃ b off, A2 = some ⟨b, off, none⟩ ∧ b < w2.heap.size ∧ ∀ j (hj : j < lt.length), w2.cell? ⟨b, off + j, none⟩ = some (.int .u8 (lt[j].toNat : Int)) := byt_cells HB2b.out hlt
            have hcell := hc k hlt
            clear hc
            have hkn : (k : Int) < (n2 : Int) := by have := HN2.out; omega
            have hkn' : k < n2 := by have := HN2.out; omega
            have hkc : (k : Int) ≤ 70368744177664 := by omega
            have hst := rest1_snoc y lt k hlt
            have hbx : lt[k].toNat < 256 := lt[k].toNat_lt
            have HS := Lib.hid hst
            have HK := Lib.hid (rest1_lt y (lt.take k) HLT4.out)
            clear hst
            unfold step1 at HS
            generalize lt[k].toNat = x1 at *
            generalize rest1 y (lt.take k) = y1 at *
            go_wp2_with fail
            rw [w_p5, w_xor _ _ HK.out (mulW_lt _ _)]
            refine (rotl_any _ 11 _ (xor_lt HK.out (mulW_lt _ _)) (by omega)).mono ?_
            rintro e w9 ⟨rfl, rfl⟩
            go_wp2_with fail
            go_round
            case rel => exact ⟨k + 1, by omega, by go_num, by rw [HS.out, w_p1]⟩
            case measure => simp [intOf]; omega
          · have hfin : lt.take k = lt := List.take_of_length_le (by omega)
            have hkn : ¬ (k : Int) < (n2 : Int) := by have := HN2.out; omega
            rw [hfin]
            go_wp2_with fail
            go_ret
            exact ⟨ret_int (by rw [HF.out]), HBelE.out⟩
      · have hn4 : ¬ (4 : Int) ≤ (n : Int) := by have := N.out; omega
        have HF : Hid (restW h0 l = rest1 x l') := by rw [hfin, rest4, if_neg hlt4]; exact rfl
        have HX := Lib.hid hx
        have HB := Lib.hid hb
        have HBel := Lib.hid hbel
        have hl4 : l'.length ≤ 8 := by omega
        clear hx hb hbel hl' hfin hlt hlt4
        go_wp2_with fail
        go_loop [0, 41] (fun h i => TailRel x l' h i) (fun _ i => l'.length - (intOf i).toNat)
        case atStart => exact ⟨0, by omega, rfl, by rw [List.take_zero, rest1_nil]⟩
        case round =>
          obtain ⟨k, hk, rfl, rfl⟩ := hrel
          by_cases hlt : k < l'.length
          · obtain ⟨b, off, rfl, hb, hc⟩ : ∃ b off, A = some ⟨b, off, none⟩ ∧ b < wr.heap.size ∧ ∀ j (hj : j < l'.length), wr.cell? ⟨b, off + j, none⟩ = some (.int .u8 (l'[j].toNat : Int)) := byt_cells HB.out hlt
            have hcell := hc k hlt
            clear hc
            have hkn : (k : Int) < (n : Int) := by have := N.out; omega
            have hkn' : k < n := by have := N.out; omega
            have hkc : (k : Int) ≤ 70368744177664 := by omega
            have hst := rest1_snoc x l' k hlt
            have hbx : l'[k].toNat < 256 := l'[k].toNat_lt
            have HS := Lib.hid hst
            have HK := Lib.hid (rest1_lt x (l'.take k) HX.out)
            clear hst
            unfold step1 at HS
            generalize l'[k].toNat = x1 at *
            generalize rest1 x (l'.take k) = y1 at *
            go_wp2_with fail
            rw [w_p5, w_xor _ _ HK.out (mulW_lt _ _)]
            refine (rotl_any _ 11 _ (xor_lt HK.out (mulW_lt _ _)) (by omega)).mono ?_
            rintro e w9 ⟨rfl, rfl⟩
            go_wp2_with fail
            go_round
            case rel => exact ⟨k + 1, by omega, by go_num, by rw [HS.out, w_p1]⟩
            case measure => simp [intOf]; omega
          · have hfin : l'.take k = l' := List.take_of_length_le (by omega)
            have hkn : ¬ (k : Int) < (n : Int) := by have := N.out; omega
            rw [hfin]
            go_wp2_with fail
            go_ret
            exact ⟨ret_int (by rw [HF.out]), HBel.out⟩
end Go.Proofs.Ytafpnckpeaggcaa
