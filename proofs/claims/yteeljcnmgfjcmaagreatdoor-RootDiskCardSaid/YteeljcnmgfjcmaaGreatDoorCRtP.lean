/-
  Small laws on roots at an operation of a walk. Conditions: none.
-/
import Derived.Test.YteeljcnmgfjcmaaGreatDoorMg9
import Derived.Test.YteeljcnmgfjcmaaGreatDoorMg5
namespace Go.Proofs.YteeljcnmgfjcmaaGreatDoor
open Go.RowKit Go.Maps
set_option maxRecDepth 100000

theorem wpList_exec {ops : Array Oper} {rest : List Oper} {o : Oper} {a : Act} {w : World} {Q : Exit → Act → World → Prop} (hw : Region.wanted o (yielded ops a.tmps) = true) (v : Value) (hv : (execOp a.eval o).run Tryz.prog w = .ok (.value v) w)
    (h : wpList Tryz.prog ops Q rest (a.put o.dst v) w) : wpList Tryz.prog ops Q (o :: rest) a w :=
  BigFrame.wpList_want hw fun K hK => by
    unfold Oper.wp
    rw [hv, Oper.upon_value]
    exact hK _ _ h
end Go.Proofs.YteeljcnmgfjcmaaGreatDoor
