/-
  The document's disk (tallymanref04): Flush, Crash by their contracts. Conditions: none but that the disk lies there, and what is handed in apart from it.
-/
import Derived.Test.YtagchbpofoidmaaDoorSecW
namespace Go.Proofs.YtagchbpofoidmaaDoor
open Go.RowKit Go.Maps
set_option maxRecDepth 100000

def RDone (w : World) (S : Nat → Prop) (g : Nat) (r : Nat × St) (e : Ending) (w' : World) : Prop := e = .returned (.int .i64 ((r.1 : Nat) : Int)) ∧ Ref w' (more S w w') g r.2 ∧ Trn S w w'
theorem wp_copyB {o : Oper} {a : Act} {w : World} {K : Act → World → Prop} {Q : Exit → Act → World → Prop} (d s : Operand) (ho' : o.op = .call { callee := .builtin .copy, args := #[d, s], argTypes := #[22, 22] })
    (ib off n ic dLen dCap : Nat) (B l : List UInt8) (sv : Value) (hd : a.eval d = .slice (some ⟨ib, off, none⟩) dLen dCap) (hs' : a.eval s = sv)
    (ho : Own w 0 5 (.slice (some ⟨ib, 0, none⟩) n ic) B) (hs : Byt w sv l) (hle : l.length ≤ dLen) (hfit : off + dLen ≤ n)
    (h : ∀ w', Own w' 0 5 (.slice (some ⟨ib, 0, none⟩) n ic) (splice B off l) → Trn (fun k => k = ib) w w' → w'.heap.size = w.heap.size → K (a.put o.dst (goInt l.length)) w') : o.wp Tryd.prog a w K Q := by
  obtain ⟨w', hrun, g1, g2, g3⟩ := run_copyB (w := w) o.type ib off n ic dLen dCap B l sv ho hs hle hfit
  unfold Oper.wp
  simp [execOp, ho', resolve, invoke, builtin, hd, hs', hrun, Result.andThen]
  exact h w' g1 g2 g3
/-- Behind the loop: order and cache are none. -/
theorem rsettled {w wr : World} {S : Nat → Prop} {g ib ic : Nat} {vn vc : Value} {vs : List Value} {s : St} {f : Nat → Nat} (ha : RefAt w g s ib ic vn vc vs) (F : RFoot S w g ib vn vc vs) (ok : OkSt s)
    (ho : Own wr 0 5 (.slice (some ⟨ib, 0, none⟩) s.B.length ic) (settleTo f s.B s.C s.C.length)) (ht : Trn (fun x => x = ib) w wr) :
    RefAt ((wr.setCell ⟨g, 1, none⟩ (.slice none 0 0)).setCell ⟨g, 2, none⟩ (.slice none 0 0)) g (settleS f s) ib ic (.slice none 0 0) (.slice none 0 0) [] := by
  have hl : (settleS f s).B.length = s.B.length := settleS_len f ok
  refine ⟨?_, ?_, World.ownsRow_nil _ _ _ _, World.ownsRow_nil _ _ _ _, fun j hj => absurd hj (by show ¬ j < 0; omega)⟩
  · rw [hl]
    have h1 := (ht.block g (F.lt g F.g) (fun e => ha.ib_g e.symm)).trans ha.obj
    simp [World.setCell, Array.getElem?_modify, h1]
    rfl
  · rw [hl]
    refine ownsRow_same ho (fun k hk => (heap_cell_other ?_).trans (heap_cell_other ?_)) <;>
    · simp [Value.ownBlock] at hk
      exact hk ▸ ha.ib_g
/-- What a round of the loop looks at. -/
theorem round_facts {w wr : World} {S : Nat → Prop} {g ib ic k : Nat} {vn vc : Value} {vs : List Value} {s : St} (ha : RefAt w g s ib ic vn vc vs) (F : RFoot S w g ib vn vc vs) (ok : OkSt s) (ht : Trn (fun x => x = ib) w wr) (hk : k < s.C.length) :
    ∃ A1 n1 c1 A2 n2 c2 b1 o1 b2 o2 Av nv cv, vn = .slice A1 n1 c1 ∧ vc = .slice A2 n2 c2 ∧ A1 = some ⟨b1, o1, none⟩ ∧ A2 = some ⟨b2, o2, none⟩ ∧ (k < n1 ∧ n1 = s.C.length) ∧ k < n2 ∧
      wr.cell? ⟨g, 0, none⟩ = some (.slice (some ⟨ib, 0, none⟩) s.B.length ic) ∧ wr.cell? ⟨g, 1, none⟩ = some vn ∧ wr.cell? ⟨g, 2, none⟩ = some vc ∧
      wr.cell? ⟨b1, o1 + k, none⟩ = some (.int .i64 ((s.C[k].1 : Nat) : Int)) ∧ wr.cell? ⟨b2, o2 + k, none⟩ = some (.slice Av nv cv) ∧ Byt wr (.slice Av nv cv) s.C[k].2 ∧ nv = 512 ∧ nv ≤ cv ∧ cv ≤ 9223372036854775807 := by
  have hb : ∀ x, S x → x ≠ ib → wr.heap[x]? = w.heap[x]? := fun x hx he => ht.block x (F.lt x hx) he
  have hobj := (hb g F.g (fun e => ha.ib_g e.symm)).trans ha.obj
  have hord := ownsRow_same (w' := wr) ha.ord (fun x hx => hb x (F.n x hx) (ha.n_g hx).2)
  have hrows := ownsRow_same (w' := wr) ha.rows (fun x hx => hb x (F.c x hx) (ha.c_g hx).2)
  have hlen := ha.len
  rw [← hlen] at hrows
  have hr2 : Rowz wr vc vs := OwnR.rowz hrows
  obtain ⟨A1, n1, c1, rfl, N1, _, _⟩ := (ints_rowz hord).form
  obtain ⟨A2, n2, c2, rfl, N2, _, _⟩ := hr2.form
  obtain ⟨b1, o1, rfl, _, h1⟩ := (ints_rowz hord).at (k := k) (by rw [inz_len, keysC_len]; exact hk)
  obtain ⟨b2, o2, rfl, _, h2⟩ := hr2.at (k := k) (by omega)
  have hkv : k < vs.length := by omega
  have hown := ownsRow_same (w' := wr) (ha.each k hk hkv).1 (fun x hx => hb x (F.r _ (List.getElem_mem hkv) x hx) (fun e => (ha.each k hk hkv).2 (e ▸ hx)))
  have hby : Byt wr vs[k] s.C[k].2 := Own.byt hown
  obtain ⟨Av, nv, cv, ev, Nv, hv1, hv2⟩ := hby.form
  obtain ⟨q0, q1, q2, _, _, _, _⟩ := robj_cells hobj
  have hn1 : n1 = s.C.length := by have := N1.out; rw [inz_len, keysC_len] at this; exact this
  have e1 := h1 k (by rw [inz_len, keysC_len]; exact hk)
  have e2 := h2 k hkv
  refine ⟨_, n1, c1, _, n2, c2, b1, o1, b2, o2, Av, nv, cv, rfl, rfl, rfl, rfl, ⟨by omega, hn1⟩, by have := N2.out; omega, q0, q1, q2, ?_, by rw [e2, ev], ev ▸ hby, Nv.out.trans (ok.rows _ (List.getElem_mem hk)).2, hv1, hv2⟩
  rw [e1]
  simp [inz, keysC]
theorem dstRun {n ic ib x : Nat} (h1 : 512 * (x + 1) ≤ n) (h2 : n ≤ ic) : ∀ W, (Instr.slice 22 (.slice (some ⟨ib, 0, none⟩) n ic) (some (.int .i64 ((x : Int) * 512))) none none).run Tryd.prog W = .ok (.slice (some ⟨ib, 512 * x, none⟩) (n - 512 * x) (ic - 512 * x)) W := by
  intro W
  rw [run_slice_l W 22 _ n ic elemByte .i64 ((x : Int) * 512) (by omega) (by omega), sizeByte]
  have e1 : ((x : Int) * 512).toNat = 512 * x := by omega
  simp only [Result.andThen, sliced, e1]
  rw [if_neg (by omega)]
  simp [plainAdd]
theorem wrapMul {x : Nat} (h : x ≤ 32768) : IntKind.i64.wrap ((x : Int) * 512) = (x : Int) * 512 := by
  rw [IntKind.wrap_i64]; omega

theorem Rowz.trnN {w w' : World} {S : Nat → Prop} {v : Value} {vs : List Value} (h : Rowz w v vs) (ht : Trn S w w') (hn : vs ≠ [] → ∀ k, v.ownBlock = some k → ¬ S k) : Rowz w' v vs := by
  by_cases h0 : vs = []
  · subst h0
    obtain ⟨A, c, rfl, h1, h2, h3⟩ := h
    exact ⟨A, c, rfl, h1, h2, .inl rfl⟩
  · exact h.trn ht (hn h0)
end Go.Proofs.YtagchbpofoidmaaDoor
