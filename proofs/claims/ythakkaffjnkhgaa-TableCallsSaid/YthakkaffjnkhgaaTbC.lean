/-
  Package table's trimmed, mayStand, Check, stands, Get by their contracts. Conditions: lists of at most 65536 ints.
-/
import Derived.Test.YthakkaffjnkhgaaTbB
import Derived.Maps.OwnSet
namespace Go.Proofs.Ythakkaffjnkhgaa
open Go.RowKit Go.Maps
set_option maxRecDepth 100000
set_option linter.unusedVariables false
set_option linter.unusedSimpArgs false

/-! trimmed. -/
theorem Rowz.part {w : World} {A : Option Addr} {n c k : Nat} {zs : List Int} (h : Rowz w (.slice A n c) (intC zs)) (hk : k ≤ n) (c' : Nat) (h1 : k ≤ c') (h2 : c' ≤ maxLen) : Rowz w (.slice A k c') (intC (zs.take k)) := by
  have hn := h.lenZ
  obtain ⟨A', cc, hv, _, _, h3⟩ := h
  injection hv with e1 e2 e3
  subst e1 e3
  have hl : (intC (zs.take k)).length = k := by rw [intC_len, List.length_take]; omega
  refine ⟨A, c', by rw [hl], by omega, h2, ?_⟩
  rcases h3 with h3 | ⟨b, off, rfl, hb, hc⟩
  · left
    have : zs = [] := by simpa [intC] using h3
    subst this
    simp [intC]
  · refine .inr ⟨b, off, rfl, hb, fun j hj => ?_⟩
    rw [hl] at hj
    rw [hc j (by rw [intC_len]; omega)]
    simp [intC]
def lenZv : Value → Nat
  | .slice _ n _ => n
  | _ => 0
def TrmRel (A : Option Addr) (zs : List Int) (s : Value) : Prop := ∃ k c : Nat, s = .slice A k c ∧ k ≤ zs.length ∧ k ≤ c ∧ c ≤ 9223372036854775807 ∧ ∀ j, k ≤ j → atZ zs j = 0
/-- What trimmed leaves: a part of what it was handed. -/
def TrmOut (w : World) (v : Value) (zs : List Int) (e : Ending) (w' : World) : Prop := ∃ x, e = .returned x ∧ w = w' ∧ Rowz w x (intC (trimL zs)) ∧ (∀ k, x.ownBlock = some k → v.ownBlock = some k) ∧ ∃ A c, x = .slice A (trimL zs).length c
theorem sizeInt1 : ∀ W, (sizeOf (Try.prog.elem 22)).run Try.prog W = .ok 1 W := fun _ => by kernel_rfl
theorem elemInt1 : Try.prog.underlying 22 = some (.slice (Try.prog.elem 22)) := by kernel_rfl
theorem own_slice (A : Option Addr) (n c n' c' : Nat) : (Value.slice A n c).ownBlock = (Value.slice A n' c').ownBlock := by cases A <;> rfl
theorem slice_hm (b off k c q : Nat) (hq : q ≤ c) (W : World) : (Instr.slice 22 (.slice (some ⟨b, off, none⟩) k c) none (some (.int .i64 (q : Int))) (some (.int .i64 (q : Int)))).run Try.prog W = .ok (.slice (some ⟨b, off, none⟩) q q) W := by
  rw [run_slice_hm W 22 _ k c elemInt1 .i64 .i64 (q : Int) (q : Int) (by omega) (by omega) (by omega), sizeInt1]
  simp [Result.andThen, sliced, plainAdd]
theorem trim_at {zs : List Int} {k : Nat} (hk : k ≤ zs.length) (h1 : ∀ j, k ≤ j → atZ zs j = 0) (h2 : 0 < k → atZ zs (k - 1) ≠ 0) : trimL zs = zs.take k := by
  unfold trimL
  rw [trimN_is zs k hk h1 h2]
set_option maxHeartbeats 1000000 in
theorem ttrim_any (w : World) (v : Value) (zs : List Int) (hv : Rowz w v (intC zs)) (hlen : zs.length ≤ 1073741824) :
    Calls Try.prog 35 #[v] w (TrmOut w v zs) := by
  obtain ⟨A, n, c, rfl, N, hnc, hcm⟩ := hv.form
  have HV := Lib.hid hv
  have HL := Lib.hid hlen
  have hn : n = zs.length := hv.lenZ
  subst hn
  clear hv hlen N
  go_enter Try.func35, Try.ntmps35
  go_wp2_with fail
  go_loop [0] (fun s => TrmRel A zs s) (fun s => lenZv s)
  case atStart => exact ⟨_, _, rfl, Nat.le_refl _, hnc, hcm, fun j hj => atZ_ge hj⟩
  case round =>
    obtain ⟨k, c1, rfl, hk, hkc, hcm1, hall⟩ := hrel
    have HA := Lib.hid hall
    have HK := Lib.hid hk
    have hOut : Hid ((0 < k → atZ zs (k - 1) ≠ 0) → TrmOut w (.slice A zs.length c) zs (.returned (.slice A k c1)) w) := by
      intro h2
      have e := trim_at HK.out HA.out h2
      have hl : (trimL zs).length = k := by rw [e, List.length_take]; have := HK.out; omega
      exact ⟨_, rfl, rfl, by rw [e]; exact HV.out.part HK.out c1 hkc (by unfold maxLen; omega), fun k hk => (own_slice A _ _ _ _) ▸ hk, A, c1, by rw [hl]⟩
    clear hall
    by_cases h0 : 0 < k
    · obtain ⟨q, hq⟩ : ∃ q, k = q + 1 := ⟨k - 1, by omega⟩
      have HQ := Lib.hid hq
      have hqk : (0 : Int) < (k : Int) := by omega
      obtain ⟨b, off, rfl, hb, hc⟩ := HV.out.atZ (k := q) (by omega)
      have hsl : ∀ W, (Instr.slice 22 (.slice (some ⟨b, off, none⟩) k c1) none (some (.int .i64 ((k : Int) - 1))) (some (.int .i64 ((k : Int) - 1)))).run Try.prog W = .ok (.slice (some ⟨b, off, none⟩) q q) W := fun W => by
        rw [show (k : Int) - 1 = (q : Int) by omega]
        exact slice_hm b off k c1 q (by omega) W
      rw [show off + q = off + (k - 1) by omega] at hc
      generalize hy : atZ zs q = y at *
      have HY := Lib.hid hy
      clear hy hk h0 hq
      by_cases e : y = 0
      · subst e
        go_wp2_with fail
        go_roundw
        case rel => exact ⟨q, q, rfl, by have := HK.out; have := HQ.out; omega, Nat.le_refl _, by have := HL.out; have := HK.out; have := HQ.out; omega, fun j hj => by
          by_cases e : j = q
          · subst e; exact HY.out
          · exact HA.out j (by have := HQ.out; omega)⟩
        case measure => have := HQ.out; simp [lenZv]; omega
      · have he : (y == 0) = false := by simpa using e
        have HE := Lib.hid e
        clear e
        go_wp2_with fail
        go_ret
        exact hOut.out (fun _ => by rw [HQ.out, Nat.add_sub_cancel, HY.out]; exact HE.out)
    · obtain rfl : k = 0 := by omega
      go_wp2_with fail
      go_ret
      exact hOut.out (fun h => absurd h (Nat.lt_irrefl _))

/-! mayStand. -/
def inZ (zs : List Int) : Prop := ∀ j, -9223372036854775808 ≤ atZ zs j ∧ atZ zs j ≤ 9223372036854775807
theorem tbOk_in {zs : List Int} (h : tbOk zs) : inZ zs := fun j => by
  by_cases h0 : atZ zs j = 0
  · omega
  · have := standZ_page h.2.2 h0
    omega
def keyZ (z : Int) : Lit := .int .i64 z
theorem keyZ_ne {a b : Int} (h : a ≠ b) : keyZ a ≠ keyZ b := fun e => h (by injection e)
theorem keyZ_wf {z : Int} (h : -9223372036854775808 ≤ z ∧ z ≤ 9223372036854775807) : (Lit.int .i64 z).wf = true := by
  simp [Lit.wf, IntKind.min, IntKind.max, IntKind.signed, IntKind.bits]
  omega
theorem intKeyedZ : Keyed Try.prog 3 := int_keyed Try.underlying3
/-- A map's block holds just what stands on the first k places, but 0. -/
def SetZ (w : World) (g m : Nat) (zs : List Int) (k : Nat) : Prop := ∃ D : DataW Unit, w.ownsMap Try.prog 3 unitElem g m D ∧ IsMap D ∧ ∀ z : Int, z ≠ 0 → Maps.has D (keyZ z) = decide (∃ i, i < k ∧ atZ zs i = z)
theorem mapUnderU : Try.prog.underlying 71 = some (.map 3 72) := Try.underlying71
theorem run_makeU (k : Int) (w : World) : (Instr.makeMap 71 (some (.int .i64 k))).run Try.prog w = .ok (.map (some w.heap.size)) (w.alloc (.map #[] 0)) := by
  unfold Instr.makeMap
  simp only [Sem.run_bind, run_underlying mapUnderU, Result.andThen_ok, asInt, Sem.run_pure, run_newObj_alloc]
  rfl
theorem zeroUnitU (w : World) : (zeroValue 72).run Try.prog w = .ok (.agg #[]) w := by kernel_rfl
def MstRel (w : World) (zs : List Int) (i : Value) (wr : World) : Prop := ∃ k : Nat, k ≤ zs.length ∧ i = .int .i64 (k : Int) ∧ standK zs k ∧ SetZ wr w.heap.size k zs k ∧ Below w.heap.size w wr
set_option maxHeartbeats 4000000 in
set_option maxRecDepth 100000 in
theorem tmay_any (w : World) (v : Value) (zs : List Int) (hv : Rowz w v (intC zs)) (hlen : zs.length ≤ 1073741824) (hb : inZ zs) :
    Calls Try.prog 39 #[v] w fun e w' => e = .returned (.bool (decide (standZ zs))) ∧ Below w.heap.size w w' := by
  obtain ⟨A, n, c, rfl, N, hnc, hcm⟩ := hv.form
  have HV := Lib.hid hv
  have HL := Lib.hid hlen
  have HIN := Lib.hid hb
  have hn : n = zs.length := hv.lenZ
  subst hn
  have hmm := run_makeU
  generalize hd : decide (standZ zs) = d
  have HD := Lib.hid hd
  by_cases h4 : (zs.length : Int) ≤ 4096
  · clear hv hlen hb N hd

    go_enter Try.func39, Try.ntmps39
    go_wp2_with fail
    go_loopw [14] (fun i wr => MstRel w zs i wr) (fun i _ => zs.length - (intOf i).toNat)
    case atStart =>
      refine ⟨0, by omega, rfl, (fun j hj => absurd hj (Nat.not_lt_zero j)), ⟨.map [], World.ownsMap_made _ _ _ _, isMap_empty, fun n _ => by simp [Maps.has]⟩, below_new w _⟩
    case round =>
      obtain ⟨k, hk, rfl, hmay, hset, hbel⟩ := hrel
      have HM := Lib.hid hmay
      have HB := Lib.hid hbel
      have HSET := Lib.hid hset
      obtain ⟨D, hown, hism, hhas⟩ := hset
      have HO := Lib.hid hown
      have HI := Lib.hid hism
      have HH := Lib.hid hhas
      clear hmay hbel hown hism hhas
      by_cases hlt : k < zs.length
      · have hkn : (k : Int) < (zs.length : Int) := by omega
        obtain ⟨b, off, rfl, hb, hc1⟩ := (HV.out.below HB.out).atZ hlt
        have HLT : Hid (k < zs.length) := hlt
        have HKEY : Hid (keyOf Try.prog 3 (.int .i64 (atZ zs k)) = some (keyZ (atZ zs k))) := keyOf_int_mk Try.underlying3 (keyZ_wf (HIN.out k))
        generalize hx : atZ zs k = x at *
        have HX := Lib.hid hx
        clear hx hlt
        have HF : Hid (¬ (x = 0 ∨ (2 ≤ x ∧ x < 4096) ∧ ∀ i, i < k → atZ zs i ≠ x) → d = false) := by
          intro hno
          rw [← HD.out]
          simp only [decide_eq_false_iff_not]
          intro h
          have := h k HLT.out
          rw [HX.out] at this
          exact hno this
        by_cases h0 : x = 0
        · subst h0
          go_wp2_with fail
          go_roundw
          case rel =>
            obtain ⟨D', hown', hism', hhas'⟩ := HSET.out
            refine ⟨k + 1, by have := HLT.out; omega, by have := HL.out; have := HLT.out; go_num, (standK_succ zs k).2 ⟨HM.out, .inl HX.out⟩, ⟨D', hown'.mono (Nat.le_succ k), hism', fun z hz => ?_⟩, HB.out⟩
            rw [hhas' z hz]
            congr 1
            apply propext
            constructor
            · rintro ⟨i, hi, e⟩; exact ⟨i, by omega, e⟩
            · rintro ⟨i, hi, e⟩
              by_cases ei : i = k
              · subst ei; exact absurd (e.symm.trans HX.out) hz
              · exact ⟨i, by omega, e⟩
          case measure => have := HLT.out; simp [intOf]; omega
        · have hx0 : (x == 0) = false := by simpa using h0
          have HNZ := Lib.hid h0
          have hh := HH.out x h0
          clear h0
          by_cases hin : ∃ i, i < k ∧ atZ zs i = x
          · have hf : d = false := HF.out (fun h => by
              rcases h with h | h
              · exact HNZ.out h
              · obtain ⟨i, hi, e⟩ := hin
                exact h.2 i hi e)
            subst hf
            have hx1 : Maps.has D (keyZ x) = true := by rw [hh]; exact decide_eq_true hin
            clear hin hh
            go_wp2_with (first
              | (at_lookup; refine wpList_lookup_own_unit _ rfl _ _ 71 rfl 3 72 intKeyedZ mapUnderU (zeroUnitU _) w.heap.size k D rfl HO.out _ (keyZ x) rfl HKEY.out ?_; rw [hx1]))
            go_ret
            exact ⟨rfl, HB.out.alloc HB.out.size _⟩
          · have hx1 : Maps.has D (keyZ x) = false := by rw [hh]; exact decide_eq_false hin
            have HNI := Lib.hid hin
            have HP := Lib.hid (ispage_any x)
            clear hin hh
            by_cases hp : pgOk x
            · have hpd : decide (pgOk x) = true := decide_eq_true hp
              rw [hpd] at HP
              have HPG := Lib.hid hp
              clear hp hpd
              go_wp2_with (first
                | (at_lookup; refine wpList_lookup_own_unit _ rfl _ _ 71 rfl 3 72 intKeyedZ mapUnderU (zeroUnitU _) w.heap.size k D rfl HO.out _ (keyZ x) rfl HKEY.out ?_; rw [hx1]))
              refine (HP.out _).mono ?_
              rintro e w1 ⟨rfl, hw1⟩
              subst hw1
              go_wp2_with (first
                | (at_mapUpdate; refine wpList_mapUpdate_own _ rfl _ _ _ 71 rfl 3 72 intKeyedZ mapUnderU (unitElem (H := Unit)) w.heap.size k D rfl (HO.out.alloc _) (by unfold maxLen; have := HL.out; have := HLT.out; omega) _ _ _ rfl rfl HKEY.out _ [] unitElem_mk ?_; intro w2 hown2 hgrow2))
              go_roundw
              case rel =>
                refine ⟨k + 1, by have := HLT.out; omega, by have := HL.out; have := HLT.out; go_num, (standK_succ zs k).2 ⟨HM.out, .inr ?_⟩, ⟨_, hown2, HI.out.put _ _, fun z hz => ?_⟩, ?_⟩
                · rw [HX.out]; exact ⟨HPG.out, fun i hi e => HNI.out ⟨i, hi, e⟩⟩
                · by_cases e : z = x
                  · subst e
                    rw [has_put_same HI.out (show WideAt.IsKeyLit (keyZ z) from trivial)]
                    symm
                    exact decide_eq_true ⟨k, by omega, HX.out⟩
                  · rw [has_put_other (keyZ_ne e), HH.out z hz]
                    congr 1
                    apply propext
                    constructor
                    · rintro ⟨i, hi, e⟩; exact ⟨i, by omega, e⟩
                    · rintro ⟨i, hi, e'⟩
                      by_cases ei : i = k
                      · subst ei; exact absurd (e'.symm.trans HX.out) e
                      · exact ⟨i, by omega, e'⟩
                · exact (HB.out.alloc HB.out.size _).grown hgrow2 (by simp; exact Nat.le_succ_of_le HB.out.size) (fun j hj => by cases hj; exact Nat.le_refl _)
              case measure => have := HLT.out; simp [intOf]; omega
            · have hpd : decide (pgOk x) = false := decide_eq_false hp
              rw [hpd] at HP
              have hf : d = false := HF.out (fun h => by
                rcases h with h | h
                · exact HNZ.out h
                · exact hp h.1)
              subst hf
              clear hp hpd
              go_wp2_with (first
                | (at_lookup; refine wpList_lookup_own_unit _ rfl _ _ 71 rfl 3 72 intKeyedZ mapUnderU (zeroUnitU _) w.heap.size k D rfl HO.out _ (keyZ x) rfl HKEY.out ?_; rw [hx1]))
              refine (HP.out _).mono ?_
              rintro e w1 ⟨rfl, hw1⟩
              subst hw1
              go_wp2_with fail
              go_ret
              exact ⟨rfl, HB.out.alloc HB.out.size _⟩
      · obtain rfl : k = zs.length := by omega
        have hf : d = true := by
          rw [← HD.out]
          simp only [decide_eq_true_eq]
          exact HM.out
        subst hf
        go_wp2_with fail
        go_ret
        exact ⟨rfl, HB.out⟩
  · have h4' : (4096 : Int) ≤ (zs.length : Int) := by omega
    clear hv hlen hb N hd

    go_enter Try.func39, Try.ntmps39
    go_wp2_with fail
    go_loopw [14] (fun i wr => MstRel w zs i wr) (fun i _ => zs.length - (intOf i).toNat)
    case atStart =>
      refine ⟨0, by omega, rfl, (fun j hj => absurd hj (Nat.not_lt_zero j)), ⟨.map [], World.ownsMap_made _ _ _ _, isMap_empty, fun n _ => by simp [Maps.has]⟩, below_new w _⟩
    case round =>
      obtain ⟨k, hk, rfl, hmay, hset, hbel⟩ := hrel
      have HM := Lib.hid hmay
      have HB := Lib.hid hbel
      have HSET := Lib.hid hset
      obtain ⟨D, hown, hism, hhas⟩ := hset
      have HO := Lib.hid hown
      have HI := Lib.hid hism
      have HH := Lib.hid hhas
      clear hmay hbel hown hism hhas
      by_cases hlt : k < zs.length
      · have hkn : (k : Int) < (zs.length : Int) := by omega
        obtain ⟨b, off, rfl, hb, hc1⟩ := (HV.out.below HB.out).atZ hlt
        have HLT : Hid (k < zs.length) := hlt
        have HKEY : Hid (keyOf Try.prog 3 (.int .i64 (atZ zs k)) = some (keyZ (atZ zs k))) := keyOf_int_mk Try.underlying3 (keyZ_wf (HIN.out k))
        generalize hx : atZ zs k = x at *
        have HX := Lib.hid hx
        clear hx hlt
        have HF : Hid (¬ (x = 0 ∨ (2 ≤ x ∧ x < 4096) ∧ ∀ i, i < k → atZ zs i ≠ x) → d = false) := by
          intro hno
          rw [← HD.out]
          simp only [decide_eq_false_iff_not]
          intro h
          have := h k HLT.out
          rw [HX.out] at this
          exact hno this
        by_cases h0 : x = 0
        · subst h0
          go_wp2_with fail
          go_roundw
          case rel =>
            obtain ⟨D', hown', hism', hhas'⟩ := HSET.out
            refine ⟨k + 1, by have := HLT.out; omega, by have := HL.out; have := HLT.out; go_num, (standK_succ zs k).2 ⟨HM.out, .inl HX.out⟩, ⟨D', hown'.mono (Nat.le_succ k), hism', fun z hz => ?_⟩, HB.out⟩
            rw [hhas' z hz]
            congr 1
            apply propext
            constructor
            · rintro ⟨i, hi, e⟩; exact ⟨i, by omega, e⟩
            · rintro ⟨i, hi, e⟩
              by_cases ei : i = k
              · subst ei; exact absurd (e.symm.trans HX.out) hz
              · exact ⟨i, by omega, e⟩
          case measure => have := HLT.out; simp [intOf]; omega
        · have hx0 : (x == 0) = false := by simpa using h0
          have HNZ := Lib.hid h0
          have hh := HH.out x h0
          clear h0
          by_cases hin : ∃ i, i < k ∧ atZ zs i = x
          · have hf : d = false := HF.out (fun h => by
              rcases h with h | h
              · exact HNZ.out h
              · obtain ⟨i, hi, e⟩ := hin
                exact h.2 i hi e)
            subst hf
            have hx1 : Maps.has D (keyZ x) = true := by rw [hh]; exact decide_eq_true hin
            clear hin hh
            go_wp2_with (first
              | (at_lookup; refine wpList_lookup_own_unit _ rfl _ _ 71 rfl 3 72 intKeyedZ mapUnderU (zeroUnitU _) w.heap.size k D rfl HO.out _ (keyZ x) rfl HKEY.out ?_; rw [hx1]))
            go_ret
            exact ⟨rfl, HB.out.alloc HB.out.size _⟩
          · have hx1 : Maps.has D (keyZ x) = false := by rw [hh]; exact decide_eq_false hin
            have HNI := Lib.hid hin
            have HP := Lib.hid (ispage_any x)
            clear hin hh
            by_cases hp : pgOk x
            · have hpd : decide (pgOk x) = true := decide_eq_true hp
              rw [hpd] at HP
              have HPG := Lib.hid hp
              clear hp hpd
              go_wp2_with (first
                | (at_lookup; refine wpList_lookup_own_unit _ rfl _ _ 71 rfl 3 72 intKeyedZ mapUnderU (zeroUnitU _) w.heap.size k D rfl HO.out _ (keyZ x) rfl HKEY.out ?_; rw [hx1]))
              refine (HP.out _).mono ?_
              rintro e w1 ⟨rfl, hw1⟩
              subst hw1
              go_wp2_with (first
                | (at_mapUpdate; refine wpList_mapUpdate_own _ rfl _ _ _ 71 rfl 3 72 intKeyedZ mapUnderU (unitElem (H := Unit)) w.heap.size k D rfl (HO.out.alloc _) (by unfold maxLen; have := HL.out; have := HLT.out; omega) _ _ _ rfl rfl HKEY.out _ [] unitElem_mk ?_; intro w2 hown2 hgrow2))
              go_roundw
              case rel =>
                refine ⟨k + 1, by have := HLT.out; omega, by have := HL.out; have := HLT.out; go_num, (standK_succ zs k).2 ⟨HM.out, .inr ?_⟩, ⟨_, hown2, HI.out.put _ _, fun z hz => ?_⟩, ?_⟩
                · rw [HX.out]; exact ⟨HPG.out, fun i hi e => HNI.out ⟨i, hi, e⟩⟩
                · by_cases e : z = x
                  · subst e
                    rw [has_put_same HI.out (show WideAt.IsKeyLit (keyZ z) from trivial)]
                    symm
                    exact decide_eq_true ⟨k, by omega, HX.out⟩
                  · rw [has_put_other (keyZ_ne e), HH.out z hz]
                    congr 1
                    apply propext
                    constructor
                    · rintro ⟨i, hi, e⟩; exact ⟨i, by omega, e⟩
                    · rintro ⟨i, hi, e'⟩
                      by_cases ei : i = k
                      · subst ei; exact absurd (e'.symm.trans HX.out) e
                      · exact ⟨i, by omega, e'⟩
                · exact (HB.out.alloc HB.out.size _).grown hgrow2 (by simp; exact Nat.le_succ_of_le HB.out.size) (fun j hj => by cases hj; exact Nat.le_refl _)
              case measure => have := HLT.out; simp [intOf]; omega
            · have hpd : decide (pgOk x) = false := decide_eq_false hp
              rw [hpd] at HP
              have hf : d = false := HF.out (fun h => by
                rcases h with h | h
                · exact HNZ.out h
                · exact hp h.1)
              subst hf
              clear hp hpd
              go_wp2_with (first
                | (at_lookup; refine wpList_lookup_own_unit _ rfl _ _ 71 rfl 3 72 intKeyedZ mapUnderU (zeroUnitU _) w.heap.size k D rfl HO.out _ (keyZ x) rfl HKEY.out ?_; rw [hx1]))
              refine (HP.out _).mono ?_
              rintro e w1 ⟨rfl, hw1⟩
              subst hw1
              go_wp2_with fail
              go_ret
              exact ⟨rfl, HB.out.alloc HB.out.size _⟩
      · obtain rfl : k = zs.length := by omega
        have hf : d = true := by
          rw [← HD.out]
          simp only [decide_eq_true_eq]
          exact HM.out
        subst hf
        go_wp2_with fail
        go_ret
        exact ⟨rfl, HB.out⟩
end Go.Proofs.Ythakkaffjnkhgaa
