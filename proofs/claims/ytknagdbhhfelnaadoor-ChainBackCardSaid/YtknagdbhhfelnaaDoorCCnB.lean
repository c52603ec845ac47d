/-
  Package chain's small functions by their contracts; slices.Clone, Index, Contains of ints. Conditions: lists of at most 2^30 numbers.
-/
import Derived.Test.YtknagdbhhfelnaaDoorCCnA
import Derived.Test.YtknagdbhhfelnaaDoorCRowV
import Derived.Test.YtknagdbhhfelnaaDoorCPlJ
import Derived.Test.YtknagdbhhfelnaaDoorCPlI
import Derived.Test.YtknagdbhhfelnaaDoorMg5
import Derived.Maps.OwnSet
namespace Go.Proofs.YtknagdbhhfelnaaDoor
open Go.RowKit Go.Maps
set_option maxRecDepth 100000
set_option linter.unusedVariables false

/-! Need. -/
def needI (n : Int) : Nat := needN n.toNat
theorem cneed_any (w : World) (n : Int) (h : n ≤ 4611686018427387904) : Calls Tryd.prog 13 #[.int .i64 n] w fun e w' => e = .returned (.int .i64 (needI n : Int)) ∧ w = w' := by
  go_enter Tryd.func13, Tryd.ntmps13
  go_wp2_with fail
  all_goals
    go_ret
    exact ⟨ret_int (by unfold needI needN; omega), rfl⟩

/-! isKind, isLength. -/
theorem ckind_any (k : Int) (w : World) : Calls Tryd.prog 21 #[.int .i64 k] w fun e w' => e = .returned (.bool (k == 2 || k == 3 || k == 7)) ∧ w = w' := by
  by_cases h2 : k = 2
  · subst h2
    go_enter Tryd.func21, Tryd.ntmps21
    go_wp2
    go_ret
    exact ⟨rfl, rfl⟩
  have h2' : (k == 2) = false := by simpa using h2
  by_cases h4 : k = 3
  · subst h4
    go_enter Tryd.func21, Tryd.ntmps21
    go_wp2
    go_ret
    exact ⟨rfl, rfl⟩
  have h4' : (k == 3) = false := by simpa using h4
  clear h2 h4
  go_enter Tryd.func21, Tryd.ntmps21
  go_wp2
  go_ret
  exact ⟨by simp [h2', h4'], rfl⟩
theorem clength_any (len place next : Nat) (w : World) : Calls Tryd.prog 67 #[.int .i64 (len : Int), .int .i64 (place : Int), .bool (decide (next = 0))] w fun e w' => e = .returned (.bool (lenOk len place next)) ∧ w = w' := by
  by_cases h0 : next = 0
  · subst h0
    by_cases hp : 0 < place
    · have hp' : (0 : Int) < (place : Int) := by omega
      by_cases hl : len = 0
      · subst hl
        have e : lenOk 0 place 0 = false := by unfold lenOk; simp; omega
        rw [e]
        go_enter Tryd.func67, Tryd.ntmps67
        go_wp2
        go_ret
        exact ⟨rfl, rfl⟩
      · have hl' : ((len : Int) == 0) = false := by simp; exact hl
        have e : lenOk len place 0 = decide ((len : Int) ≤ 4074) := by unfold lenOk; simp [hl]; omega
        rw [e]
        go_enter Tryd.func67, Tryd.ntmps67
        go_wp2
        go_ret
        exact ⟨rfl, rfl⟩
    · obtain rfl : place = 0 := by omega
      have e : lenOk len 0 0 = decide ((len : Int) ≤ 4074) := by unfold lenOk; simp; omega
      rw [e]
      go_enter Tryd.func67, Tryd.ntmps67
      go_wp2
      go_ret
      exact ⟨rfl, rfl⟩
  · have hd : decide (next = 0) = false := decide_eq_false h0
    have e : lenOk len place next = ((len : Int) == 4074) := by
      unfold lenOk
      rw [if_pos h0]
      by_cases h : len = 4074
      · subst h; rfl
      · rw [decide_eq_false h]; exact (ne_int (b := 4074) h).symm
    rw [e, hd]
    go_enter Tryd.func67, Tryd.ntmps67
    go_wp2
    go_ret
    exact ⟨rfl, rfl⟩

/-! isMade. -/
theorem cmade_is {w : World} {T : Nat → Prop} {p d fb : Nat} {P : PSt} (h : PAt w T p d fb P) : Calls Tryd.prog 27 #[.pointer (some ⟨p, 0, none⟩)] w (BoolB w true) := by
  have HF := Lib.hid (pframes_is h)
  have HL : Hid (decide (0 < P.fr.length) = true) := by have := h.len; rw [Hid]; exact decide_eq_true (by omega)
  go_enter Tryd.func27, Tryd.ntmps27
  go_wp2_with fail
  refine HF.out.mono ?_
  rintro e w1 ⟨g, rfl, _, _, hb⟩
  have HB := Lib.hid hb
  go_wp2_with fail
  go_ret
  refine ⟨?_, HB.out⟩
  exact congrArg (fun b => Ending.returned (.bool b)) HL.out
theorem cmade_nil (w : World) : Calls Tryd.prog 27 #[.pointer none] w (BoolB w false) := by
  go_enter Tryd.func27, Tryd.ntmps27
  go_wp2_with fail
  refine (pframes_nil w).mono ?_
  rintro e w1 ⟨rfl, rfl⟩
  go_wp2_with fail
  go_ret
  exact ⟨rfl, Below.refl _ _⟩

/-! slices of ints. -/
set_option maxHeartbeats 1000000 in
theorem iclone_any (w : World) (A : Option Addr) (n c : Nat) (l : List Nat) (hv : Rowz w (.slice A n c) (natC l)) (hlen : l.length ≤ 1073741824) :
    Calls Tryd.prog 23 #[.slice A n c] w (MadeN w l) := by
  obtain ⟨i0, hi0, hz0, hz1, hz2⟩ := info_parts iinfo
  have HV := Lib.hid hv
  have HE := Lib.hid (OwnV.empty w 3)
  have HL : Hid ((natC l).length ≤ 1073741824) := by rw [natC_len]; exact hlen
  have hq := fun W a n c n' c' => Lib.run_eql_slice_nil (P := Tryd.prog) W 26 3 a n c n' c' Tryd.underlying26
  cases A with
  | none =>
    have hl : l = [] := by
      obtain ⟨A', c', e, _, _, h3⟩ := hv
      injection e with e1 e2 e3
      subst e1
      rcases h3 with h3 | ⟨b, off, h, _⟩
      · simpa [natC] using h3
      · cases h
    subst hl
    clear hv hlen
    go_enter Tryd.func23, Tryd.ntmps23
    go_wp2
    go_ret
    exact ⟨_, rfl, OwnV.nil _ _ _, Below.refl _ _⟩
  | some ad =>
    clear hv hlen
    go_enter Tryd.func23, Tryd.ntmps23
    go_wp2_with (at_builtin; refine wpList_appV rfl (.tmp 5) (.tmp 6) _ rfl w.heap.size 3 8 i0 _ Tryd.underlying26 hi0 hz0 hz1 hz2 rfl _ [] rfl HE.out _ (natC l) rfl (HV.out.below (below_new w _)) (natC_one l) (by have := HL.out; simp only [List.length_nil]; omega) (by have := HL.out; simp only [List.length_nil, maxLen]; omega) (by simp) ?_; intro v1 w1 hown1 hg1 hat1; have hb1 := OwnV.below HE.out (below_new w _) (by simp) hg1)
    go_ret
    exact ⟨_, rfl, by rw [List.nil_append] at hown1; exact hown1, hb1⟩
def INxOut (w : World) (x : Nat) (l : List Nat) (e : Ending) (w' : World) : Prop := ∃ r : Int, e = .returned (.int .i64 r) ∧ w = w' ∧ decide (0 ≤ r) = decide (x ∈ l)
def INxRel (l : List Nat) (x : Nat) (i : Value) : Prop := ∃ k : Nat, k ≤ l.length ∧ i = .int .i64 (k : Int) ∧ x ∉ l.take k
set_option maxHeartbeats 1000000 in
theorem iindex_any (w : World) (A : Option Addr) (n c : Nat) (l : List Nat) (x : Nat) (hv : Rowz w (.slice A n c) (natC l)) (hlen : l.length ≤ 1073741824) :
    Calls Tryd.prog 52 #[.slice A n c, .int .i64 (x : Int)] w (INxOut w x l) := by
  obtain ⟨A, n, c, e, N, hnc, hcm⟩ := hv.form
  cases e
  have HV := Lib.hid hv
  have HL := Lib.hid hlen
  have hn : n = l.length := N.out.trans (natC_len l)
  subst hn
  clear hv hlen N
  go_enter Tryd.func52, Tryd.ntmps52
  go_wp2
  go_loop [8] (fun i => INxRel l x i) (fun i => l.length - (intOf i).toNat)
  case atStart => exact ⟨0, by omega, rfl, by simp⟩
  case round =>
    obtain ⟨k, hk, rfl, hall⟩ := hrel
    have HA := Lib.hid hall
    clear hall
    by_cases hlt : k < l.length
    · have hkn : (k : Int) < (l.length : Int) := by omega
      obtain ⟨b, off, rfl, hb, hc⟩ := HV.out.at (k := k) (by rw [natC_len]; exact hlt)
      have hc1 : w.cell? ⟨b, off + k, none⟩ = some (.int .i64 (l[k] : Int)) := (hc k (by rw [natC_len]; exact hlt)).trans (by simp [natC])
      have HT : Hid (l.take (k + 1) = l.take k ++ [l[k]]) := List.take_succ_eq_append_getElem hlt
      have HM : Hid (l[k] ∈ l) := List.getElem_mem hlt
      clear hc
      generalize l[k] = y at *
      by_cases e : x = y
      · subst e
        go_wp2
        go_ret
        exact ⟨_, rfl, rfl, by simp [HM.out]⟩
      · have he := ne_int e
        have HN := Lib.hid e
        clear e
        go_wp2
        go_roundw
        case rel =>
          refine ⟨k + 1, by omega, by go_num, ?_⟩
          rw [HT.out]
          simp only [List.mem_append, List.mem_singleton, not_or]
          exact ⟨HA.out, HN.out⟩
        case measure => simp [intOf]; omega
    · obtain rfl : k = l.length := by omega
      go_wp2
      go_ret
      refine ⟨_, rfl, rfl, ?_⟩
      have := HA.out
      rw [List.take_length] at this
      simp [this]
theorem icontains_any (w : World) (A : Option Addr) (n c : Nat) (l : List Nat) (x : Nat) (hv : Rowz w (.slice A n c) (natC l)) (hlen : l.length ≤ 1073741824) :
    Calls Tryd.prog 29 #[.slice A n c, .int .i64 (x : Int)] w fun e w' => e = .returned (.bool (decide (x ∈ l))) ∧ w = w' := by
  have HI := Lib.hid (iindex_any w A n c l x hv hlen)
  clear hv hlen
  go_enter Tryd.func29, Tryd.ntmps29
  go_wp2_with fail
  refine HI.out.mono ?_
  rintro e w1 ⟨r, rfl, rfl, hr⟩
  go_wp2_with fail
  go_ret
  rw [← hr]
  exact ⟨rfl, rfl⟩

/-! mayHave. -/
def mayP (ps : List Nat) : Prop := ps.Nodup ∧ ∀ n ∈ ps, 2 ≤ n ∧ n ≤ 4294967295
instance (ps : List Nat) : Decidable (mayP ps) := by unfold mayP; exact inferInstance
/-- A map's block holds just these numbers. -/
def SetOf (w : World) (g k : Nat) (ps : List Nat) : Prop := ∃ D : DataW Unit, w.ownsMap Tryd.prog 3 unitElem g k D ∧ IsMap D ∧ ∀ n : Nat, Maps.has D (keyL n) = decide (n ∈ ps)
theorem mapUnder9 : Tryd.prog.underlying 92 = some (.map 3 93) := Tryd.underlying92
theorem run_makeN (k : Int) (w : World) : (Instr.makeMap 92 (some (.int .i64 k))).run Tryd.prog w = .ok (.map (some w.heap.size)) (w.alloc (.map #[] 0)) := by
  unfold Instr.makeMap
  simp only [Sem.run_bind, run_underlying mapUnder9, Result.andThen_ok, asInt, Sem.run_pure, run_newObj_alloc]
  rfl
theorem zeroUnit (w : World) : (zeroValue 93).run Tryd.prog w = .ok (.agg #[]) w := by kernel_rfl
def MayRel (w : World) (ps : List Nat) (i : Value) (wr : World) : Prop := ∃ k : Nat, k ≤ ps.length ∧ i = .int .i64 (k : Int) ∧ mayP (ps.take k) ∧ SetOf wr w.heap.size k (ps.take k) ∧ Below w.heap.size w wr
set_option maxHeartbeats 4000000 in
set_option maxRecDepth 100000 in
theorem cmay_any (w : World) (A : Option Addr) (n c : Nat) (ps : List Nat) (hv : Rowz w (.slice A n c) (natC ps)) (hlen : ps.length ≤ 1073741824) (hb : ∀ x ∈ ps, x ≤ 4611686018427387904) :
    Calls Tryd.prog 22 #[.slice A n c] w (BoolB w (decide (mayP ps))) := by
  obtain ⟨A, n, c, e, N, hnc, hcm⟩ := hv.form
  cases e
  have HV := Lib.hid hv
  have HL := Lib.hid hlen
  have HBB := Lib.hid hb
  have hn : n = ps.length := N.out.trans (natC_len ps)
  subst hn
  have hmm := run_makeN
  generalize hd : decide (mayP ps) = d
  have HD := Lib.hid hd
  clear hv hlen hb N hd
  go_enter Tryd.func22, Tryd.ntmps22
  go_wp2_with fail
  go_loopw [13] (fun i wr => MayRel w ps i wr) (fun i _ => ps.length - (intOf i).toNat)
  case atStart =>
    refine ⟨0, by omega, rfl, ⟨by simp, by simp⟩, ⟨.map [], World.ownsMap_made _ _ _ _, isMap_empty, fun n => by simp [Maps.has]⟩, below_new w _⟩
  case round =>
    obtain ⟨k, hk, rfl, hmay, hset, hbel⟩ := hrel
    have HM := Lib.hid hmay
    have HB := Lib.hid hbel
    obtain ⟨D, hown, hism, hhas⟩ := hset
    have HO := Lib.hid hown
    have HI := Lib.hid hism
    clear hmay hbel hown hism
    by_cases hlt : k < ps.length
    · have hkn : (k : Int) < (ps.length : Int) := by omega
      obtain ⟨b, off, rfl, hb, hc⟩ := (HV.out.below HB.out).at (k := k) (by rw [natC_len]; exact hlt)
      have hc1 : wr.cell? ⟨b, off + k, none⟩ = some (.int .i64 (ps[k] : Int)) := (hc k (by rw [natC_len]; exact hlt)).trans (by simp [natC])
      have HT : Hid (ps.take (k + 1) = ps.take k ++ [ps[k]]) := List.take_succ_eq_append_getElem hlt
      have HX : Hid (ps[k] ∈ ps) := List.getElem_mem hlt
      have HP : Hid (mayP ps → ps[k] ∉ ps.take k ∧ 2 ≤ ps[k] ∧ ps[k] ≤ 4294967295) := fun h => by
        refine ⟨fun hm => ?_, h.2 _ (List.getElem_mem hlt)⟩
        have hnd : (ps.take (k + 1)).Nodup := h.1.sublist (List.take_sublist _ _)
        rw [List.take_succ_eq_append_getElem hlt, List.nodup_append] at hnd
        exact hnd.2.2 _ hm _ (List.mem_singleton.2 rfl) rfl
      have hkey : keyOf Tryd.prog 3 (.int .i64 (ps[k] : Int)) = some (keyL ps[k]) := keyOf_int_mk Tryd.underlying3 (keyL_wf (by have := HBB.out _ (List.getElem_mem hlt); omega))
      have hh := hhas ps[k]
      have HH := Lib.hid hhas
      clear hc hhas
      generalize ps[k] = x at *
      have HHK := Lib.hid hh
      clear hh
      by_cases hin : x ∈ ps.take k
      · have hf : d = false := by
          rw [← HD.out]
          simp only [decide_eq_false_iff_not]
          exact fun h => (HP.out h).1 hin
        subst hf
        have hx1 : Maps.has D (keyL x) = true := by rw [HHK.out]; simp [hin]
        clear hin
        go_wp2_with (first
          | (at_lookup; refine wpList_lookup_own_unit _ rfl _ _ 92 rfl 3 93 intKeyed mapUnder9 (zeroUnit _) w.heap.size k D rfl HO.out _ (keyL x) rfl hkey ?_; rw [hx1]))
        go_ret
        exact ⟨rfl, HB.out.alloc HB.out.size _⟩
      · have hx1 : Maps.has D (keyL x) = false := by rw [HHK.out]; simp [hin]
        have HIN := Lib.hid hin
        clear hin
        by_cases h2 : x < 2
        · have hf : d = false := by
            rw [← HD.out]
            simp only [decide_eq_false_iff_not]
            exact fun h => by have := (HP.out h).2; omega
          subst hf
          have h2' : (x : Int) < 2 := by omega
          go_wp2_with (first
            | (at_lookup; refine wpList_lookup_own_unit _ rfl _ _ 92 rfl 3 93 intKeyed mapUnder9 (zeroUnit _) w.heap.size k D rfl HO.out _ (keyL x) rfl hkey ?_; rw [hx1]))
          go_ret
          exact ⟨rfl, HB.out.alloc HB.out.size _⟩
        · have h2' : ¬ (x : Int) < 2 := by omega
          by_cases h3 : 4294967295 < x
          · have hf : d = false := by
              rw [← HD.out]
              simp only [decide_eq_false_iff_not]
              exact fun h => by have := (HP.out h).2; omega
            subst hf
            have h3' : (4294967295 : Int) < (x : Int) := by omega
            go_wp2_with (first
              | (at_lookup; refine wpList_lookup_own_unit _ rfl _ _ 92 rfl 3 93 intKeyed mapUnder9 (zeroUnit _) w.heap.size k D rfl HO.out _ (keyL x) rfl hkey ?_; rw [hx1]))
            go_ret
            exact ⟨rfl, HB.out.alloc HB.out.size _⟩
          · have h3' : ¬ (4294967295 : Int) < (x : Int) := by omega
            have HLK : Hid (k < ps.length) := hlt
            go_wp2_with (first
              | (at_lookup; refine wpList_lookup_own_unit _ rfl _ _ 92 rfl 3 93 intKeyed mapUnder9 (zeroUnit _) w.heap.size k D rfl HO.out _ (keyL x) rfl hkey ?_; rw [hx1])
              | (at_mapUpdate; refine wpList_mapUpdate_own _ rfl _ _ _ 92 rfl 3 93 intKeyed mapUnder9 (unitElem (H := Unit)) w.heap.size k D rfl (HO.out.alloc _) (by unfold maxLen; have := HL.out; omega) _ _ _ rfl rfl hkey _ [] unitElem_mk ?_; intro w1 hown1 hgrow1))
            go_roundw
            case rel =>
              refine ⟨k + 1, by omega, by go_num, ?_, ⟨_, hown1, HI.out.put _ _, fun y => ?_⟩, ?_⟩
              · rw [HT.out]
                refine ⟨List.nodup_append.2 ⟨HM.out.1, by simp, fun a ha b hb => ?_⟩, fun n hn => ?_⟩
                · rw [List.mem_singleton.1 hb]; exact fun e => HIN.out (e ▸ ha)
                · rcases List.mem_append.1 hn with hn | hn
                  · exact HM.out.2 n hn
                  · rw [List.mem_singleton.1 hn]; omega
              · rw [HT.out]
                by_cases e : y = x
                · subst e
                  rw [has_put_same HI.out (show WideAt.IsKeyLit (keyL y) from trivial)]
                  simp
                · rw [has_put_other (keyL_ne e), HH.out y]
                  simp [e]
              · exact (HB.out.alloc HB.out.size _).grown hgrow1 (by simp; exact Nat.le_succ_of_le HB.out.size) (fun j hj => by cases hj; exact Nat.le_refl _)
            case measure => simp [intOf]; omega
    · obtain rfl : k = ps.length := by omega
      have hf : d = true := by
        rw [← HD.out]
        simp only [decide_eq_true_eq]
        have := HM.out
        rw [List.take_length] at this
        exact this
      subst hf
      go_wp2_with fail
      go_ret
      exact ⟨rfl, HB.out⟩
end Go.Proofs.YtknagdbhhfelnaaDoor
