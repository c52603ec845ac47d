/-
  Rows of slices, and package crc's Parts by its contract: the sum of all parts, one behind the other. Conditions: the bytes of a part are fewer than 2^46.
-/
import Derived.Test.YthabjfnaghdenaaOn
namespace Go.Proofs.Ythabjfnaghdenaa
open Go.RowKit

/-- The slice value v holds these values, a cell each. -/
def Rowz (w : World) (v : Value) (vs : List Value) : Prop :=
  ∃ (A : Option Addr) (c : Nat), v = .slice A vs.length c ∧ vs.length ≤ c ∧ c ≤ maxLen ∧
    (vs = [] ∨ ∃ b off, A = some ⟨b, off, none⟩ ∧ b < w.heap.size ∧ ∀ j (hj : j < vs.length), w.cell? ⟨b, off + j, none⟩ = some vs[j])
theorem Rowz.nil (w : World) : Rowz w (.slice none 0 0) [] := ⟨none, 0, rfl, by simp, by simp [maxLen], .inl rfl⟩
theorem Rowz.below {w w' : World} {v : Value} {vs : List Value} (h : Rowz w v vs) (hb : Below w.heap.size w w') : Rowz w' v vs := by
  obtain ⟨A, c, rfl, h1, h2, h3⟩ := h
  refine ⟨A, c, rfl, h1, h2, ?_⟩
  rcases h3 with h3 | ⟨b, off, rfl, hlt, hc⟩
  · exact .inl h3
  · exact .inr ⟨b, off, rfl, Nat.lt_of_lt_of_le hlt hb.size, fun j hj => by rw [← hc j hj]; exact hb.cell (p := ⟨b, off + j, none⟩) hlt⟩
theorem Rowz.form {w : World} {v : Value} {vs : List Value} (h : Rowz w v vs) : ∃ A n c, v = .slice A n c ∧ Hid (n = vs.length) ∧ n ≤ c ∧ c ≤ 9223372036854775807 := by
  obtain ⟨A, c, rfl, h1, h2, _⟩ := h
  unfold maxLen at h2
  exact ⟨A, _, c, rfl, rfl, h1, by omega⟩
theorem Rowz.at {w : World} {A : Option Addr} {n c k : Nat} {vs : List Value} (h : Rowz w (.slice A n c) vs) (hk : k < vs.length) :
    ∃ b off, A = some ⟨b, off, none⟩ ∧ b < w.heap.size ∧ ∀ j (hj : j < vs.length), w.cell? ⟨b, off + j, none⟩ = some vs[j] := by
  obtain ⟨A', c', hv, h1, h2, h3⟩ := h
  injection hv with e1 e2 e3
  subst e1
  rcases h3 with h3 | h3
  · subst h3; simp at hk
  · exact h3

/-- The values are slices of these bytes. -/
def Byts (w : World) (vs : List Value) (ls : List (List UInt8)) : Prop := vs.length = ls.length ∧ ∀ j (hj : j < vs.length) (hj' : j < ls.length), Byt w vs[j] ls[j]
theorem Byts.below {w w' : World} {vs : List Value} {ls : List (List UInt8)} (h : Byts w vs ls) (hb : Below w.heap.size w w') : Byts w' vs ls := ⟨h.1, fun j hj hj' => (h.2 j hj hj').below hb⟩
theorem Byts.nil (w : World) : Byts w [] [] := ⟨rfl, fun j hj => by simp at hj⟩
theorem Byts.snoc {w : World} {vs : List Value} {ls : List (List UInt8)} (h : Byts w vs ls) {v : Value} {l : List UInt8} (hv : Byt w v l) : Byts w (vs ++ [v]) (ls ++ [l]) := by
  refine ⟨by simp [h.1], fun j hj hj' => ?_⟩
  by_cases hlt : j < vs.length
  · rw [List.getElem_append_left hlt, List.getElem_append_left (by have := h.1; omega)]
    exact h.2 j hlt _
  · have e : j = vs.length := by simp at hj; omega
    subst e
    have h1 := h.1
    simp [h1]
    exact hv

/-- The sum of parts. -/
def partsC (t : List Nat) (ls : List (List UInt8)) : Nat := ls.foldl (onC t) 0
theorem foldl_onC {t : List Nat} (ht : Tab t) : ∀ (ls : List (List UInt8)) (s : Nat), s < 4294967296 → ls.foldl (onC t) s = onC t s ls.flatten := by
  intro ls
  induction ls with
  | nil => intro s hs; exact (onC_nil t s hs).symm
  | cons l ls ih => intro s hs; rw [List.foldl_cons, ih _ (onC_lt _ _ _), List.flatten_cons, onC_app ht]
theorem partsC_is {t : List Nat} (ht : Tab t) (ls : List (List UInt8)) : partsC t ls = onC t 0 ls.flatten := foldl_onC ht ls 0 (by omega)
theorem partsC_lt {t : List Nat} (ht : Tab t) (ls : List (List UInt8)) : partsC t ls < 4294967296 := by rw [partsC_is ht]; exact onC_lt _ _ _
theorem partsC_take (t : List Nat) (ls : List (List UInt8)) (k : Nat) (hk : k < ls.length) : partsC t (ls.take (k + 1)) = onC t (partsC t (ls.take k)) ls[k] := by
  unfold partsC
  rw [List.take_succ_eq_append_getElem hk, List.foldl_append]
  rfl

def ThroughRel (w : World) (t : List Nat) (ls : List (List UInt8)) (s i : Value) (wr : World) : Prop :=
  ∃ k : Nat, k ≤ ls.length ∧ i = .int .i64 (k : Int) ∧ s = .int .u32 (partsC t (ls.take k) : Int) ∧ Below (w.heap.size + 1) (w.alloc (.cells (tabV t) 25)) wr

set_option maxRecDepth 100000 in
set_option maxHeartbeats 1000000 in
theorem crcthrough_any (w : World) (t : List Nat) (v : Value) (vs : List Value) (ls : List (List UInt8)) (ht : Tab t) (hv : Rowz w v vs) (hl : Byts w vs ls) (hlen : ∀ l ∈ ls, l.length ≤ 70368744177664) :
    Calls Try.prog 22 #[.agg (tabV t), v] w (Word32 w (partsC t ls)) := by
  have HV := Lib.hid (hv.below (below_new w (.cells (tabV t) 25)))
  have HL := Lib.hid (hl.below (below_new w (.cells (tabV t) 25)))
  obtain ⟨A, n, c, rfl, N, hnc, hcm⟩ := hv.form
  have HA := Lib.hid (ATab.new w t)
  have HT := Lib.hid ht
  have HN := Lib.hid hlen
  have NL : Hid (n = ls.length) := N.out.trans hl.1
  clear hv ht hlen hl
  go_enter Try.func22, Try.ntmps22
  go_wp2_with fail
  go_loopw [5, 10] (fun s i wr => ThroughRel w t ls s i wr) (fun _ i _ => n - (intOf i).toNat)
  case atStart => exact ⟨0, by omega, rfl, rfl, Below.refl _ _⟩
  case round =>
    obtain ⟨k, hk, rfl, rfl, hbel⟩ := hrel
    have hbel' : Below (w.alloc (.cells (tabV t) 25)).heap.size (w.alloc (.cells (tabV t) 25)) wr := hbel.mono (by simp)
    have HA1 := Lib.hid (HA.out.below hbel')
    have HV1 := Lib.hid (HV.out.below hbel')
    have HL1 := Lib.hid (HL.out.below hbel')
    have HB := Lib.hid hbel
    have HP := Lib.hid (partsC_lt HT.out (ls.take k))
    clear hbel hbel'
    by_cases hlt : k < ls.length
    · have hkv : k < vs.length := by have := HL.out.1; omega
      obtain ⟨b, off, rfl, hb, hc⟩ := HV1.out.at hkv
      have hck := hc k hkv
      have hkn : (k : Int) < (n : Int) := by have := NL.out; omega
      have HR := Lib.hid (partsC_take t ls k hlt)
      have HX := Lib.hid (HL1.out.2 k hkv hlt)
      have HM := Lib.hid (HN.out _ (List.getElem_mem hlt))
      generalize ls[k] = l at *
      generalize vs[k] = x at *
      generalize partsC t (ls.take k) = y at *
      have C0 := Lib.hid (crcon_any wr t y x l HT.out HP.out HX.out HM.out)
      clear hc hb
      go_wp2_with (refine wpList_loadTab rfl _ rfl _ rfl _ HA1.out HT.out.1 ?_)
      refine C0.out.mono ?_
      rintro e w2 ⟨rfl, hb2⟩
      have HB2 := Lib.hid (HB.out.trans (hb2.mono (by have := HB.out.size; simp at this; omega)))
      clear hb2
      go_wp2_with fail
      go_roundw
      case rel => exact ⟨k + 1, by omega, by go_num, by rw [HR.out], HB2.out⟩
      case measure => simp [intOf]; omega
    · have e : k = ls.length := by omega
      have hkn : ¬ (k : Int) < (n : Int) := by have := NL.out; omega
      have HE : Hid (partsC t (ls.take k) = partsC t ls) := by rw [e, List.take_length]; exact rfl
      generalize partsC t (ls.take k) = y at *
      go_wp2_with fail
      go_ret
      exact ⟨ret_int (by rw [HE.out]), (below_new w _).trans (HB.out.mono (by omega))⟩

set_option maxHeartbeats 1000000 in
theorem crcparts_any (w : World) (v : Value) (vs : List Value) (ls : List (List UInt8)) (hv : Rowz w v vs) (hl : Byts w vs ls) (hlen : ∀ l ∈ ls, l.length ≤ 70368744177664) :
    Calls Try.prog 11 #[v] w (Word32 w (sumC ls.flatten)) := by
  have HV := Lib.hid hv
  have HL := Lib.hid hl
  have HN := Lib.hid hlen
  clear hv hl hlen
  have HF : Hid (sumC ls.flatten = partsC tabC ls) := (partsC_is tabC_tab ls).symm
  go_enter Try.func11, Try.ntmps11
  go_wp2_with fail
  refine (crctable_any _).mono ?_
  rintro e w1 ⟨rfl, hb1⟩
  go_wp2_with fail
  refine (crcthrough_any _ tabC _ vs ls tabC_tab (HV.out.below hb1) (HL.out.below hb1) HN.out).mono ?_
  rintro e w2 ⟨rfl, hb2⟩
  go_wp2_with fail
  go_ret
  exact ⟨ret_int (by rw [HF.out]), hb1.trans (hb2.mono hb1.size)⟩
end Go.Proofs.Ythabjfnaghdenaa
