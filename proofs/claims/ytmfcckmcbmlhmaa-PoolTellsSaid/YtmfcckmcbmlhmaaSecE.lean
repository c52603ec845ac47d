/-
  Package sector: New, Of, Image, Cached by their contracts. Conditions: none but that the disk lies there.
-/
import Derived.Test.YtmfcckmcbmlhmaaSecD
import Derived.Test.YtmfcckmcbmlhmaaRowq
namespace Go.Proofs.Ytmfcckmcbmlhmaa
open Go.RowKit Go.Maps
set_option maxRecDepth 100000

theorem iinfo : (Try.prog.info? 3).map (fun i => (i.zero, i.size, i.bytes)) = some (some (.int .i64 0), 1, 8) := by kernel_rfl
theorem inz_one (l : List Nat) : ∀ u ∈ inz l, u.oneCell' = true := by
  intro u hu
  simp [inz] at hu
  obtain ⟨b, _, rfl⟩ := hu
  rfl
theorem ownsRow_low {w : World} {B B' : Nat} {e : TypeId} {v : Value} {n : Nat} {xs : List Value} (h : w.ownsRow B e 1 v n xs) (hB : B' ≤ B) : w.ownsRow B' e 1 v n xs := by
  refine ⟨h.1, ?_⟩
  rcases h.2 with h0 | ⟨g, cap, cur, hv, hb, r⟩
  · exact .inl h0
  · exact .inr ⟨g, cap, cur, hv, Nat.le_trans hB hb, r⟩

/-- What a call that makes a disk leaves. -/
def Disked (w : World) (s : St) (e : Ending) (w' : World) : Prop :=
  ∃ g, e = .returned (.tuple #[.pointer (some ⟨g, 0, none⟩), .int .i64 0]) ∧ Dsk w' (fun k => w.heap.size ≤ k ∧ k < w'.heap.size) g s ∧ Below w.heap.size w w'
set_option maxHeartbeats 1000000 in
theorem disk_any (w : World) (ib ic : Nat) (B : List UInt8) (hv : Own w 0 5 (.slice (some ⟨ib, 0, none⟩) B.length ic) B) (ok : OkSt (ofS B)) :
    Calls Try.prog 27 #[.slice (some ⟨ib, 0, none⟩) B.length ic] w fun e w' => e = .returned (.pointer (some ⟨w.heap.size + 1, 0, none⟩)) ∧ Dsk w' (fun k => k = ib ∨ (w.heap.size ≤ k ∧ k < w'.heap.size)) (w.heap.size + 1) (ofS B) ∧ Below w.heap.size w w' := by
  have HV := Lib.hid hv
  have HO := Lib.hid ok
  have hlt : ib < w.heap.size := (World.ownsRow.lt hv ib rfl).2
  clear hv ok
  have hmm := @run_makeMap Try.prog
  go_enter Try.func27, Try.ntmps27
  go_wp2_with fail
  go_ret
  have hm := World.ownsMap_made w Try.prog 3 rowE
  refine ⟨rfl, ⟨ib, ic, w.heap.size, .slice none 0 0, .pointer none, .map [], ⟨?_, ?_, hm.alloc _, Fits.nil, World.ownsRow_nil _ _ _ _, .inl ⟨rfl, rfl⟩, fun f hf => (by cases hf)⟩, ⟨.inr ⟨by omega, by simp⟩, .inl rfl, .inr ⟨by omega, by simp; omega⟩, fun k hk => (by cases hk), fun k hk => (by cases hk), ?_⟩, HO.out⟩, ?_⟩
  · have := heap_alloc_new (w.alloc (.map #[] 0)) (.cells #[.slice (some ⟨ib, 0, none⟩) B.length ic, .map (some w.heap.size), .slice none 0 0, .pointer none] 70 (0, 0))
    rw [show (w.alloc (.map #[] 0)).heap.size = w.heap.size + 1 by simp] at this
    exact this
  · exact World.ownsRow.alloc (World.ownsRow.alloc HV.out _) _
  · rintro k (rfl | h)
    · simp; omega
    · exact h.2
  · exact (below_new w _).alloc (by simp) _

theorem mul512 (x : Int) (k : Nat) (h : x = (k : Int)) : x * 512 = ((512 * k : Nat) : Int) := by omega
set_option maxHeartbeats 1000000 in
theorem snew_any (w : World) (n : Nat) (h0 : 0 < n) (h1 : n ≤ 32768) : Calls Try.prog 8 #[.int .i64 (n : Int)] w (Disked w (newS n)) := by
  obtain ⟨i0, hi0, hz0, hz1, hz2⟩ := info_parts uinfo
  have h2 : ¬ (n : Int) < 1 := by omega
  have h3 : ¬ (32768 : Int) < (n : Int) := by omega
  go_enter Try.func8, Try.ntmps8
  go_wp2_with (at_make; refine wpList_make_full _ rfl _ _ 29 rfl w.heap.size 5 i0 _ 1 Try.underlying29 hi0 hz0 hz1 _ _ _ _ (512 * n) rfl rfl (by omega) (by omega) (by rw [hz2]; omega) (by simp only [maxLen]; omega) (Nat.le_refl _) ?_; intro w1 hown1 hg1)
  have HV : Own w1 w.heap.size 5 (.slice (some ⟨w.heap.size, 0, none⟩) (List.replicate (512 * n) (0 : UInt8)).length (512 * n)) (List.replicate (512 * n) 0) := by
    have e1 : (madeCells (Value.cells (.int .u8 0)) (512 * n * 1)).toList = byc (List.replicate (512 * n) 0) := by
      rw [show (Value.cells (.int .u8 0)) = #[.int .u8 0] from rfl, toList_madeCells_one, Nat.mul_one]
      simp [byc]
    rw [e1] at hown1
    unfold Own
    rw [List.length_replicate]
    exact hown1
  have HB := Lib.hid (below_none hg1)
  have OK := OkSt.new h0 h1
  have C := Lib.hid (disk_any w1 w.heap.size (512 * n) (List.replicate (512 * n) 0) (HV.lower (Nat.zero_le _)) OK)
  have hlt : w.heap.size < w1.heap.size := (World.ownsRow.lt HV w.heap.size rfl).2
  rw [List.length_replicate] at C
  clear hown1 HV OK hg1
  go_wp2_with fail
  refine C.out.mono ?_
  rintro e w2 ⟨rfl, hd, hb2⟩
  have HD := Lib.hid hd
  have HB2 := Lib.hid hb2
  clear hd hb2
  go_wp2_with fail
  go_ret2
  refine ⟨_, rfl, HD.out.wide ?_ (fun k hk => hk.2), HB.out.trans (HB2.out.mono HB.out.size)⟩
  rintro k (rfl | hk)
  · exact ⟨Nat.le_refl _, Nat.lt_of_lt_of_le hlt HB2.out.size⟩
  · exact ⟨Nat.le_trans HB.out.size hk.1, hk.2⟩
theorem snew_bad (w : World) (x : Int) (h : x < 1 ∨ 32768 < x) : Calls Try.prog 8 #[.int .i64 x] w fun e w' => e = .returned (.tuple #[.pointer none, .int .i64 2]) ∧ w = w' := by
  by_cases h1 : x < 1
  · go_enter Try.func8, Try.ntmps8
    go_wp2_with fail
    go_ret2
    exact ⟨rfl, rfl⟩
  · have h2 : (32768 : Int) < x := by omega
    go_enter Try.func8, Try.ntmps8
    go_wp2_with fail
    go_ret2
    exact ⟨rfl, rfl⟩
/-- May bytes be a disk? -/
def MayOf (l : List UInt8) : Prop := 0 < l.length ∧ l.length % 512 = 0 ∧ l.length ≤ 16777216
/-- A disk's image, as bytes. -/
theorem Dsk.parts {w : World} {S : Nat → Prop} {g : Nat} {s : St} (h : Dsk w S g s) :
    ∃ ib ic m vo vf, DObj w g ib ic m s.B.length vo vf ∧ Byt w (.slice (some ⟨ib, 0, none⟩) s.B.length ic) s.B ∧ w.ownsRow 0 3 1 vo s.C.length (inz (keysC s.C)) := by
  obtain ⟨ib, ic, m, vo, vf, D, h, F, ok⟩ := h
  obtain ⟨A', c', e, h1, h2, _⟩ := Own.byt h.img
  injection e with _ _ e3
  subst e3
  unfold maxLen at h2
  exact ⟨ib, ic, m, vo, vf, ⟨h.obj, h1, by omega⟩, Own.byt h.img, h.ord⟩
theorem OkSt.pos {s : St} (h : OkSt s) : 0 < s.B.length := by have := h.whole; have := h.some_; omega
theorem OkSt.short {s : St} (h : OkSt s) : s.B.length ≤ 16777216 := by have := h.whole; have := h.few; omega
set_option maxHeartbeats 1000000 in
theorem image_is (w : World) (S : Nat → Prop) (g : Nat) (s : St) (h : Dsk w S g s) :
    Calls Try.prog 23 #[.pointer (some ⟨g, 0, none⟩)] w (Made w s.B) := by
  obtain ⟨ib, ic, m, vo, vf, hd, hb, _⟩ := h.parts
  have hs := h.ok.short
  have hp := h.ok.pos
  obtain ⟨c0, c1, c2, c3, _, _, _⟩ := obj_cells hd.1
  have HM := Lib.hid (made_is w g ib ic m _ vo vf hd hp)
  have HC := Lib.hid (cloneb_any w _ s.B hb (by omega))
  clear h hd hb hs hp
  generalize s.B.length = n at *
  go_enter Try.func23, Try.ntmps23
  go_wp2_with fail
  refine HM.out.mono ?_
  rintro e w1 ⟨rfl, rfl⟩
  go_wp2_with fail
  refine HC.out.mono ?_
  rintro e w2 ⟨v2, rfl, hown, hb2⟩
  go_wp2_with fail
  go_ret
  exact made_mk hown hb2
theorem image_nil (w : World) :
    Calls Try.prog 23 #[.pointer none] w fun e w' => e = .returned (.slice none 0 0) ∧ w = w' := by
  go_enter Try.func23, Try.ntmps23
  go_wp2_with fail
  refine (made_nil _).mono ?_
  rintro e w1 ⟨rfl, rfl⟩
  go_wp2_with fail
  go_ret
  exact ⟨rfl, rfl⟩
theorem sectors_any (w : World) (S : Nat → Prop) (g : Nat) (s : St) (h : Dsk w S g s) :
    Calls Try.prog 25 #[.pointer (some ⟨g, 0, none⟩)] w fun e w' => e = .returned (.int .i64 ((secs s : Nat) : Int)) ∧ w = w' := by
  obtain ⟨ib, ic, m, vo, vf, hd, hb, _⟩ := h.parts
  exact sectors_is w g ib ic m _ vo vf hd h.ok.pos

/-! Rows of ints. -/
theorem ints_rowz {w : World} {B : Nat} {v : Value} {n : Nat} {xs : List Value} (h : w.ownsRow B 3 1 v n xs) : Rowz w v xs := by
  have hl : xs.length = n := by simpa using h.1
  rcases h.2 with ⟨rfl, h0⟩ | ⟨g, cap, cur, rfl, hb, hg, h1, h2, h3, h4⟩
  · obtain rfl : xs = [] := List.eq_nil_of_length_eq_zero (by omega)
    exact Rowz.nil w
  · refine ⟨_, cap, by rw [hl], by omega, h2, .inr ⟨g, 0, rfl, (Array.getElem?_eq_some_iff.1 hg).1, fun j hj => ?_⟩⟩
    have := World.ownsRow.cells h (g := g) rfl j xs[j] (List.getElem?_eq_getElem hj)
    rw [plainAdd] at this
    exact this
/-- What a call that makes a list of ints of its own leaves. -/
def MadeI (w : World) (l : List Nat) (e : Ending) (w' : World) : Prop :=
  ∃ v, e = .returned v ∧ w'.ownsRow w.heap.size 3 1 v l.length (inz l) ∧ Below w.heap.size w w'
set_option maxHeartbeats 1000000 in
theorem clonei_any (w : World) (v : Value) (l : List Nat) (hv : w.ownsRow 0 3 1 v l.length (inz l)) (hlen : l.length ≤ 100000) :
    Calls Try.prog 38 #[v] w (MadeI w l) := by
  obtain ⟨i0, hi0, hz0, hz1, hz2⟩ := info_parts iinfo
  rcases hv.2 with ⟨rfl, h0⟩ | ⟨g, cap, cur, rfl, _, hg, h1, h2, h3, h4⟩
  · obtain rfl : l = [] := List.eq_nil_of_length_eq_zero h0
    have E1 : ∀ W, (binOp .eql 41 (.slice none 0 0) (.slice none 0 0)).run Try.prog W = .ok (.bool true) W := fun W => Lib.run_eql_slice_nil W 41 3 none 0 0 0 0 Try.underlying41
    clear hv
    go_enter Try.func38, Try.ntmps38
    go_wp2_with fail
    go_ret
    exact ⟨_, rfl, World.ownsRow_nil w _ _ 1, Below.refl _ _⟩
  · have E1 : ∀ W, (binOp .eql 41 (.slice (some ⟨g, 0, none⟩) l.length cap) (.slice none 0 0)).run Try.prog W = .ok (.bool false) W := fun W => Lib.run_eql_slice_nil W 41 3 (some ⟨g, 0, none⟩) _ _ 0 0 Try.underlying41
    have HE := Lib.hid (World.ownsRow_lit (base := w.heap.size) (e := 3) (size := 1) w #[] 0 (Nat.le_refl _) (by simp [maxLen]) rfl)
    have HC : Hid (∀ j u, (inz l)[j]? = some u → (w.alloc (.cells #[] 3)).cell? ((⟨g, 0, none⟩ : Addr).add j) = some u) := fun j u hj => World.ownsRow.cells (hv.alloc _) (g := g) rfl j u hj
    have HL : Hid ((inz l).length = l.length * 1) := by rw [Hid]; simp [inz]
    have HI := Lib.hid (inz_one l)
    have HN : Hid (l.length ≤ 100000) := hlen
    clear hv h4 h3 hg hlen
    generalize hq : l.length = n at *
    have HQ := Lib.hid hq
    clear hq
    unfold maxLen at h2
    go_enter Try.func38, Try.ntmps38
    go_wp2_with (at_builtin; refine wpList_append_own_at _ rfl (.tmp 5) (.tmp 6) _ rfl w.heap.size 3 i0 _ 1 8 Try.underlying41 hi0 hz0 hz1 hz2 rfl (by omega) _ 0 [] rfl HE.out ⟨g, 0, none⟩ n cap (inz l) rfl HL.out HC.out HI.out (by have := HN.out; simp only [maxLen]; omega) (by have := HN.out; omega) (by simp) ?_; intro v1 w1 hown1 hg1 _ hat1)
    go_ret
    exact ⟨_, rfl, by rw [HQ.out]; simpa using hown1, below_own (below_new w _) (by simp) HE.out hg1⟩
set_option maxHeartbeats 1000000 in
theorem cached_is (w : World) (S : Nat → Prop) (g : Nat) (s : St) (h : Dsk w S g s) :
    Calls Try.prog 24 #[.pointer (some ⟨g, 0, none⟩)] w (MadeI w (keysC s.C)) := by
  obtain ⟨ib, ic, m, vo, vf, hd, hb, ho⟩ := h.parts
  have hc := h.ok.cnt
  have hp := h.ok.pos
  obtain ⟨c0, c1, c2, c3, _, _, _⟩ := obj_cells hd.1
  have HM := Lib.hid (made_is w g ib ic m _ vo vf hd hp)
  have HC := Lib.hid (clonei_any w _ (keysC s.C) (by rw [keysC_len]; exact ho) (by rw [keysC_len]; omega))
  clear h hd hb hc hp ho
  generalize s.B.length = n at *
  go_enter Try.func24, Try.ntmps24
  go_wp2_with fail
  refine HM.out.mono ?_
  rintro e w1 ⟨rfl, rfl⟩
  go_wp2_with fail
  refine HC.out.mono ?_
  rintro e w2 ⟨v2, rfl, hown, hb2⟩
  go_wp2_with fail
  go_ret
  exact ⟨_, rfl, hown, hb2⟩
theorem cached_nil (w : World) :
    Calls Try.prog 24 #[.pointer none] w fun e w' => e = .returned (.slice none 0 0) ∧ w = w' := by
  go_enter Try.func24, Try.ntmps24
  go_wp2_with fail
  refine (made_nil _).mono ?_
  rintro e w1 ⟨rfl, rfl⟩
  go_wp2_with fail
  go_ret
  exact ⟨rfl, rfl⟩
end Go.Proofs.Ytmfcckmcbmlhmaa
