/- Package arith: what Expand and Eval give on the examples. -/
import Derived.Test.YtnobmffgchlijaaGreatDoorAu
namespace Go.Proofs.YtnobmffgchlijaaGreatDoor
open Go.RowKit

theorem exp_tNum (n : Int) : (tNum n).exp = some [tNum n] := Tm.exp_leaf (by decide) (by decide) (by decide)
theorem exp_tSym (s : ByteArray) : (tSym s).exp = some [tSym s] := Tm.exp_leaf (by decide) (by decide) (by decide)
theorem sortI_sorted {l : List Int} (h : l.Pairwise (fun a b => decide (a ≤ b) = true)) : sortI l = l := List.mergeSort_of_pairwise h
theorem exp_tOp2 {s : ByteArray} {a b : Tm} {la lb : List Tm} {o : Ar} {R : List Int} (ha : a.exp = some la) (hb : b.exp = some lb) (ho : arOf s.toList 2 = some o) (hR : resultsI o [intsOf la, intsOf lb] = R) (hl : R.length ≤ 1000)
    (hs : R.Pairwise (fun a b => decide (a ≤ b) = true)) : (tOp s [a, b]).exp = some (R.map tNum) := by
  unfold tOp
  rw [Tm.exp_op, expL_two ha hb, Option.bind_some]
  show (match arOf s.toList 2 with
      | none => none
      | some o => if (resultsI o [intsOf la, intsOf lb]).length ≤ 1000 then some ((sortI (resultsI o [intsOf la, intsOf lb])).map numT) else none) = _
  rw [ho]
  show (if (resultsI o [intsOf la, intsOf lb]).length ≤ 1000 then some ((sortI (resultsI o [intsOf la, intsOf lb])).map numT) else none) = _
  rw [hR, if_pos hl, sortI_sorted hs]; rfl
theorem exp_tSpan {a b : Tm} {la lb : List Tm} {x y : Int} (ha : a.exp = some la) (hb : b.exp = some lb) (hx : (intsOf la).head? = some x) (hy : (intsOf lb).getLast? = some y) (hl : y - x + 1 ≤ 1000) : (tSpan a b).exp = some ((spanL x y).map tNum) := by
  unfold tSpan
  rw [Tm.exp_span, expL_two ha hb, Option.bind_some]
  show (match (intsOf la).head?, (intsOf lb).getLast? with
      | some a, some b => if b - a + 1 ≤ 1000 then some ((spanL a b).map numT) else none
      | _, _ => some []) = _
  rw [hx, hy]
  exact if_pos hl
theorem exp_tFun2 {s : ByteArray} {a b : Tm} {la lb : List Tm} (ha : a.exp = some la) (hb : b.exp = some lb) (hl : (combos [la, lb]).length ≤ 1000) : (tFun s [a, b]).exp = some ((combos [la, lb]).map fun c => tFun s c) := by
  unfold tFun
  rw [Tm.exp_fun, expL_two ha hb, Option.bind_some, if_pos hl]

/-! The examples. -/
def sF : ByteArray := ⟨#[102]⟩
def sA : ByteArray := ⟨#[97]⟩
def sPlus : ByteArray := ⟨#[43]⟩
def sMinus : ByteArray := ⟨#[45]⟩
def sMul : ByteArray := ⟨#[42]⟩
def sQuo : ByteArray := ⟨#[47]⟩
def t1 : Tm := tFun sF [tOp sMinus [tOp sMul [tNum 2, tNum 3], tNum 1], tSym sA]
theorem toList_of (l : List UInt8) : (ByteArray.mk l.toArray).toList = l := toList_mk l
theorem t1_exp : t1.exp = some [tFun sF [tNum 5, tSym sA]] := by
  have h1 : (tOp sMul [tNum 2, tNum 3]).exp = some ([6].map tNum) := exp_tOp2 (exp_tNum 2) (exp_tNum 3) (o := .mul) (by rw [show sMul = ByteArray.mk [42].toArray from rfl, toList_of]; rfl) (by decide) (by decide) (by decide)
  have h2 : (tOp sMinus [tOp sMul [tNum 2, tNum 3], tNum 1]).exp = some ([5].map tNum) := exp_tOp2 h1 (exp_tNum 1) (o := .sub) (by rw [show sMinus = ByteArray.mk [45].toArray from rfl, toList_of]; rfl) (by decide) (by decide) (by decide)
  exact exp_tFun2 h2 (exp_tSym sA) (by decide)
def t2 : Tm := tOp sPlus [tSym sA, tNum 1]
def t3 : Tm := tOp sQuo [tNum 1, tNum 0]
def t4 : Tm := tOp sPlus [tNum 2147483647, tNum 1]
def t5 : Tm := tFun sF [tSpan (tNum 1) (tNum 2), tOp sMul [tSpan (tNum 1) (tNum 3), tNum 2]]
def t6 : Tm := tSpan (tNum 3) (tNum 1)
def t7 : Tm := tSpan (tSpan (tNum 1) (tNum 2)) (tSpan (tNum 3) (tNum 4))
theorem t2_exp : t2.exp = some [] := exp_tOp2 (R := []) (exp_tSym sA) (exp_tNum 1) (o := .add) (by rw [show sPlus = ByteArray.mk [43].toArray from rfl, toList_of]; rfl) (by decide) (by decide) List.Pairwise.nil
theorem t3_exp : t3.exp = some [] := exp_tOp2 (R := []) (exp_tNum 1) (exp_tNum 0) (o := .quo) (by rw [show sQuo = ByteArray.mk [47].toArray from rfl, toList_of]; rfl) (by decide) (by decide) List.Pairwise.nil
theorem t4_exp : t4.exp = some [] := exp_tOp2 (R := []) (exp_tNum _) (exp_tNum 1) (o := .add) (by rw [show sPlus = ByteArray.mk [43].toArray from rfl, toList_of]; rfl) (by decide) (by decide) List.Pairwise.nil
def t5s : List Tm := [tFun sF [tNum 1, tNum 2], tFun sF [tNum 1, tNum 4], tFun sF [tNum 1, tNum 6], tFun sF [tNum 2, tNum 2], tFun sF [tNum 2, tNum 4], tFun sF [tNum 2, tNum 6]]
theorem t5_exp : t5.exp = some t5s := by
  have h1 : (tSpan (tNum 1) (tNum 2)).exp = some ([1, 2].map tNum) := exp_tSpan (x := 1) (y := 2) (exp_tNum 1) (exp_tNum 2) (by decide) (by decide) (by decide)
  have h2 : (tSpan (tNum 1) (tNum 3)).exp = some ([1, 2, 3].map tNum) := exp_tSpan (x := 1) (y := 3) (exp_tNum 1) (exp_tNum 3) (by decide) (by decide) (by decide)
  have h3 : (tOp sMul [tSpan (tNum 1) (tNum 3), tNum 2]).exp = some ([2, 4, 6].map tNum) := exp_tOp2 h2 (exp_tNum 2) (o := .mul) (by rw [show sMul = ByteArray.mk [42].toArray from rfl, toList_of]; rfl) (by decide) (by decide) (by decide)
  exact exp_tFun2 h1 h3 (by decide)
theorem t6_exp : t6.exp = some [] := exp_tSpan (x := 3) (y := 1) (exp_tNum 3) (exp_tNum 1) (by decide) (by decide) (by decide)
theorem t7_exp : t7.exp = some [tNum 1, tNum 2, tNum 3, tNum 4] := by
  have h1 : (tSpan (tNum 1) (tNum 2)).exp = some ([1, 2].map tNum) := exp_tSpan (x := 1) (y := 2) (exp_tNum 1) (exp_tNum 2) (by decide) (by decide) (by decide)
  have h2 : (tSpan (tNum 3) (tNum 4)).exp = some ([3, 4].map tNum) := exp_tSpan (x := 3) (y := 4) (exp_tNum 3) (exp_tNum 4) (by decide) (by decide) (by decide)
  exact exp_tSpan (x := 1) (y := 4) h1 h2 (by decide) (by decide) (by decide)
theorem t1_valid : t1.validB = true := by
  simp [t1, tOp, tFun, tNum, tSym, sF, sA, sMinus, sMul, Tm.validB, Tm.nodes, Tm.nodesL, nodeOkB, reqB, symbolB, operB, Tm.kind, Tm.num, Tm.name, Tm.args, ByteArray.toList_eq]
  exact ⟨⟨by rfl, by rfl⟩, by rfl, by rfl⟩
theorem t1_ground : t1.groundB = true := by rfl
theorem t1_depth : t1.depth ≤ 12 := by decide
theorem t2_valid : t2.validB = true := by
  simp [t2, tOp, tNum, tSym, sA, sPlus, Tm.validB, Tm.nodes, Tm.nodesL, nodeOkB, reqB, symbolB, operB, Tm.kind, Tm.num, Tm.name, Tm.args, ByteArray.toList_eq]
  exact ⟨by rfl, by rfl⟩
theorem t2_ground : t2.groundB = true := by rfl
theorem t2_depth : t2.depth ≤ 12 := by decide
theorem t3_valid : t3.validB = true := by
  simp [t3, tOp, tNum, sQuo, Tm.validB, Tm.nodes, Tm.nodesL, nodeOkB, reqB, operB, Tm.kind, Tm.num, Tm.name, Tm.args, ByteArray.toList_eq]
theorem t3_ground : t3.groundB = true := by rfl
theorem t3_depth : t3.depth ≤ 12 := by decide
theorem t4_valid : t4.validB = true := by
  simp [t4, tOp, tNum, sPlus, Tm.validB, Tm.nodes, Tm.nodesL, nodeOkB, reqB, operB, Tm.kind, Tm.num, Tm.name, Tm.args, ByteArray.toList_eq]
theorem t4_ground : t4.groundB = true := by rfl
theorem t4_depth : t4.depth ≤ 12 := by decide
theorem t5_valid : t5.validB = true := by
  simp [t5, tOp, tFun, tNum, tSpan, sF, sMul, Tm.validB, Tm.nodes, Tm.nodesL, nodeOkB, reqB, symbolB, operB, Tm.kind, Tm.num, Tm.name, Tm.args, ByteArray.toList_eq]
  exact ⟨by rfl, by rfl⟩
theorem t5_ground : t5.groundB = true := by rfl
theorem t5_depth : t5.depth ≤ 12 := by decide
theorem t6_valid : t6.validB = true := by
  simp [t6, tNum, tSpan, Tm.validB, Tm.nodes, Tm.nodesL, nodeOkB, reqB, Tm.kind, Tm.num, Tm.name, Tm.args, ByteArray.toList_eq]
theorem t6_ground : t6.groundB = true := by rfl
theorem t6_depth : t6.depth ≤ 12 := by decide
theorem t7_valid : t7.validB = true := by
  simp [t7, tNum, tSpan, Tm.validB, Tm.nodes, Tm.nodesL, nodeOkB, reqB, Tm.kind, Tm.num, Tm.name, Tm.args, ByteArray.toList_eq]
theorem t7_ground : t7.groundB = true := by rfl
theorem t7_depth : t7.depth ≤ 12 := by decide
theorem t1_span : t1.spanB = false := by rfl
theorem t2_span : t2.spanB = false := by rfl
theorem t3_span : t3.spanB = false := by rfl
theorem t4_span : t4.spanB = false := by rfl
theorem t1_eval : evalT t1 = some (tFun sF [tNum 5, tSym sA]) := by unfold evalT; rw [t1_span, t1_valid, t1_ground, t1_exp]; rfl
theorem t2_eval : evalT t2 = none := by unfold evalT; rw [t2_span, t2_valid, t2_ground, t2_exp]; rfl
theorem t3_eval : evalT t3 = none := by unfold evalT; rw [t3_span, t3_valid, t3_ground, t3_exp]; rfl
theorem t4_eval : evalT t4 = none := by unfold evalT; rw [t4_span, t4_valid, t4_ground, t4_exp]; rfl
end Go.Proofs.YtnobmffgchlijaaGreatDoor
