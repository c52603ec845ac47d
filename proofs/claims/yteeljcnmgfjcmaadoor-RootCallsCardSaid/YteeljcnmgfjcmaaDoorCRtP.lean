/-
  Small laws on roots at an operation of a walk. Conditions: none.
-/
import Derived.Test.YteeljcnmgfjcmaaDoorMg9
import Derived.Test.YteeljcnmgfjcmaaDoorMg5
namespace Go.Proofs.YteeljcnmgfjcmaaDoor
open Go.RowKit Go.Maps
set_option maxRecDepth 100000

theorem wpList_exec {ops : Array Oper} {rest : List Oper} {o : Oper} {a : Act} {w : World} {Q : Exit → Act → World → Prop} (hw : Region.wanted o (yielded ops a.tmps) = true) (v : Value) (hv : (execOp a.eval o).run Tryd.prog w = .ok (.value v) w)
    (h : wpList Tryd.prog ops Q rest (a.put o.dst v) w) : wpList Tryd.prog ops Q (o :: rest) a w :=
  BigFrame.wpList_want hw fun K hK => by
    unfold Oper.wp
    rw [hv, Oper.upon_value]
    exact hK _ _ h
end Go.Proofs.YteeljcnmgfjcmaaDoor
