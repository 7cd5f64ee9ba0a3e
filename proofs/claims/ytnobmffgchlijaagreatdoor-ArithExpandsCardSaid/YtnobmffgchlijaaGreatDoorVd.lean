/- Package term: Valid. -/
import Derived.Test.YtnobmffgchlijaaGreatDoorGr
import Derived.Test.YtnobmffgchlijaaGreatDoorSy
import Derived.Maps.OwnIn
import Derived.Maps.OwnOps
import Derived.Maps.OwnSet
namespace Go.Proofs.YtnobmffgchlijaaGreatDoor
open Go.RowKit Go.Shelf Go.Maps

/-- A function of the program as a number. -/
def fnElem {H : Type} : Value → Option (DataW H × List MemPlace)
  | .func (.func f) a b => if a = #[] ∧ b = #[] then some (.lit (.int .i64 f), []) else none
  | .nilFunc => some (.nil, [])
  | _ => none

theorem wpList_insert_own {H : Type} {P : Program} (w : World) {ops : Array Oper} {rest : List Oper} {o : Oper} {a : Act} {Q : Exit → Act → World → Prop}
    (hg : o.guard = none) (m x v : Operand) (t : TypeId) (hop : o.op = Op.insert t m x v)
    (k e : TypeId) (K : Keyed P k) (ht : P.underlying t = some (.map k e)) (R : Value → Option (DataW H × List MemPlace)) (b n : Nat) (D : DataW H)
    (hm : a.eval m = .map (some b)) (hown : w.ownsMap P k R b n D) (hn : n < maxLen) (key val : Value) (kl : Lit) (hx : a.eval x = key) (hv : a.eval v = val) (hkey : keyOf P k key = some kl)
    (d : DataW H) (ps : List MemPlace) (hval : R val = some (d, ps))
    (hK : ∀ w', w'.ownsMap P k R b (n + 1) (D.put kl d) → w.grownBy w' (some b) → wpList P ops Q rest (a.put o.dst undef) w') :
    wpList P ops Q (o :: rest) a w := by
  refine wpList_plain hg fun K' hK' => ?_
  obtain ⟨w', hrun, r1, r2⟩ := hown.update K ht hn hkey hval
  unfold Oper.wp
  simp [execOp, hop, hm, hx, hv, hrun, Result.andThen]
  exact hK' _ _ (hK w' r1 r2)

/-- The map of requirements: a function for each kind. -/
def reqD : DataW Unit := .map [(.int .u8 1, .lit (.int .i64 55)), (.int .u8 2, .lit (.int .i64 56)), (.int .u8 3, .lit (.int .i64 58)), (.int .u8 4, .lit (.int .i64 60)), (.int .u8 5, .lit (.int .i64 61)), (.int .u8 6, .lit (.int .i64 63))]

set_option maxRecDepth 100000 in
set_option maxHeartbeats 1000000 in
theorem req_any (w : World) :
    Calls Tryz.prog 36 #[] w fun e w' => e = .returned (.map (some w.heap.size)) ∧ w'.ownsMap Tryz.prog 5 fnElem w.heap.size 6 reqD ∧ Below w.heap.size w w' ∧ w.heap.size < w'.heap.size := by
  have hmm := @run_makeMap Tryz.prog
  have hown := World.ownsMap_made (H := Unit) w Tryz.prog 5 fnElem
  have hB : Below w.heap.size w (w.alloc (.map #[] 0)) := (Below.refl _ w).alloc (Nat.le_refl _) _
  have hz : w.heap.size < (w.alloc (.map #[] 0)).heap.size := by simp
  go_enter Tryz.func36, Tryz.ntmps36
  go_wp2_with (refine wpList_insert_own _ rfl _ _ _ _ rfl _ _ (Maps.int_keyed Tryz.underlying5) Tryz.underlying62 fnElem _ _ _ rfl hown (by unfold maxLen; omega) _ _ _ rfl rfl (Maps.keyOf_int_mk Tryz.underlying5 (by decide)) _ [] rfl ?_; clear hown; intro w1 hown hg1; replace hz := Nat.lt_of_lt_of_le hz hg1.size; replace hB := hB.grown hg1 (by have := hB.size; omega) (fun k e => by cases e; exact Nat.le_refl _); clear hg1)
  go_ret
  exact ⟨rfl, hown, hB, hz⟩
end Go.Proofs.YtnobmffgchlijaaGreatDoor
