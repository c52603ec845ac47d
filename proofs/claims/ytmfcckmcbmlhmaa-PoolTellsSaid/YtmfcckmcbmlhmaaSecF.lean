/-
  Package sector: kept, settle by their contracts. Conditions: none but that the disk lies there.
-/
import Derived.Test.YtmfcckmcbmlhmaaSecE
namespace Go.Proofs.Ytmfcckmcbmlhmaa
open Go.RowKit Go.Maps
set_option maxRecDepth 100000

/-- A crash by value. -/
def crashV (vk : Value) (torn bytes : Int) : Array Value := #[vk, .int .i64 torn, .int .i64 bytes]
theorem getD_bool {keep : List Bool} {k : Nat} (hk : k < keep.length) : keep.getD k false = keep[k] := by simp [hk]
/-- A copy of bytes into a row of the call's own. -/
theorem splice_take {α : Type} (L : List α) (n off : Nat) (cs : List α) (h : off + cs.length ≤ n) (hn : n ≤ L.length) : (splice L off cs).take n = splice (L.take n) off cs := by
  unfold splice
  have e1 : (L.take n).take off = L.take off := by rw [List.take_take]; congr 1; omega
  have hlen : (L.take off).length = off := by rw [List.length_take]; omega
  rw [e1, List.take_append, List.take_append, hlen]
  have e2 : (L.take off).take n = L.take off := List.take_of_length_le (by omega)
  have e3 : cs.take (n - off) = cs := List.take_of_length_le (by omega)
  rw [e2, e3, List.drop_take]
  congr 3
  omega
section
variable {ops : Array Oper} {rest : List Oper} {o : Oper} {a : Act} {w : World} {K : Act → World → Prop} {Q : Exit → Act → World → Prop}
theorem run_copyB (ty : TypeId) (ib off n ic dLen dCap : Nat) (B l : List UInt8) (sv : Value)
    (ho : Own w 0 5 (.slice (some ⟨ib, 0, none⟩) n ic) B) (hs : Byt w sv l) (hle : l.length ≤ dLen) (hfit : off + dLen ≤ n) :
    ∃ w', (Builtin.copy_ #[29, 29] ty #[.slice (some ⟨ib, off, none⟩) dLen dCap, sv]).run Try.prog w = .ok (goInt l.length) w' ∧ Own w' 0 5 (.slice (some ⟨ib, 0, none⟩) n ic) (splice B off l) ∧ Trn (fun k => k = ib) w w' ∧ w'.heap.size = w.heap.size := by
  have hsz : (Try.prog.info? 5).map (·.size) = some 1 := by kernel_rfl
  obtain ⟨A, c, rfl, h1, h2, h3⟩ := hs
  have hBl : B.length = n := by
    rcases ho.2 with ⟨e, _⟩ | ⟨g, cap, cur, e, _⟩
    · cases e
    · injection e with _ e _; exact e.symm
  have hmin : Nat.min l.length dLen = l.length := Nat.min_eq_left hle
  by_cases h0 : l.length = 0
  · obtain rfl : l = [] := List.eq_nil_of_length_eq_zero h0
    refine ⟨w, ?_, ?_, Trn.refl _ _, rfl⟩
    · exact run_copy_none (P := Try.prog) w 29 29 ty 5 _ A dLen dCap _ c Try.underlying29 hsz hmin
    · have : splice B off [] = B := by simp [splice]
      rw [this]; exact ho
  · rcases h3 with h3 | ⟨b, so, rfl, hb, hc⟩
    · subst h3; simp at h0
    · rcases ho.2 with ⟨e, _⟩ | ⟨g, cap, cur, e, hle0, hg, q1, q2, q3, q4⟩
      · cases e
      · injection e with e1 e2 e3
        injection e1 with e1
        injection e1 with e1
        subst e1 e3
        subst e2
        have hrun := run_copy_row (P := Try.prog) w 29 29 ty 5 ib off dLen dCap ⟨b, so, none⟩ l.length c cur 5 (byc l) Try.underlying29 hsz hg (by rw [byc_len, hmin]) (fun j v hv => by
          obtain ⟨hj, rfl⟩ := byc_get l j v hv
          rw [plainAdd]; exact hc j hj) (by rw [byc_len]; omega) (byc_one l)
        rw [byc_len] at hrun
        refine ⟨_, hrun, ⟨?_, .inr ⟨ib, ic, _, ?_, hle0, setRow_heap w ib _ _ _ _ hg, ?_, q2, ?_, ?_⟩⟩, ⟨rfl, rfl, rfl, by simp [World.setRow], fun k hk hne => setRow_other w ib k _ hne⟩, by simp [World.setRow]⟩
        · rw [byc_len]; omega
        · rw [length_splice _ _ _ (by omega)]
        · rw [length_splice _ _ _ (by omega)]; exact q1
        · simp [byc_len]; omega
        · have e : (cur.toList.take off ++ byc l ++ cur.toList.drop (off + l.length)).toArray.toList = splice cur.toList off (byc l) := by
            simp [splice, byc_len]
          rw [e, length_splice _ _ _ (by omega), splice_take _ _ _ _ (by rw [byc_len]; omega) (by simp; omega), q4, byc_splice]
theorem wpList_copyB (hgd : o.guard = none) (d s : Operand) (ho' : o.op = .call { callee := .builtin .copy, args := #[d, s], argTypes := #[29, 29] })
    (ib off n ic dLen dCap : Nat) (B l : List UInt8) (sv : Value) (hd : a.eval d = .slice (some ⟨ib, off, none⟩) dLen dCap) (hs' : a.eval s = sv)
    (ho : Own w 0 5 (.slice (some ⟨ib, 0, none⟩) n ic) B) (hs : Byt w sv l) (hle : l.length ≤ dLen) (hfit : off + dLen ≤ n)
    (h : ∀ w', Own w' 0 5 (.slice (some ⟨ib, 0, none⟩) n ic) (splice B off l) → Trn (fun k => k = ib) w w' → w'.heap.size = w.heap.size → wpList Try.prog ops Q rest (a.put o.dst (goInt l.length)) w') : wpList Try.prog ops Q (o :: rest) a w := by
  refine wpList_plain hgd fun K hK => ?_
  obtain ⟨w', hrun, g1, g2, g3⟩ := run_copyB (w := w) o.type ib off n ic dLen dCap B l sv ho hs hle hfit
  unfold Oper.wp
  simp [execOp, ho', resolve, invoke, builtin, hd, hs', hrun, Result.andThen]
  exact hK _ _ (h w' g1 g2 g3)
end
end Go.Proofs.Ytmfcckmcbmlhmaa
