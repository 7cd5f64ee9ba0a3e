/- A region that draws its order and only adds to memory, where guards may strike operations out. -/
import Derived.Test.YtnobmffgchlijaaGreatDoorRg
namespace Go.Proofs.YtnobmffgchlijaaGreatDoor
open Go.RowKit

/-- What operation i owes: it is done, or struck out. -/
def StepOr (P : Program) (ops : Array Oper) (Q : Exit → Act → World → Prop) (Φ : Facts) (a0 : Act) (w0 : World) (i : Nat) (o : Oper) : Prop :=
  ∀ a w, Below w0.heap.size w0 w → a.defers = a0.defers → a.tmps.size = a0.tmps.size →
    (∀ t, noDst ops t = true → a.tmps.getD t undef = a0.tmps.getD t undef) →
    (∀ j oj d, waitsFor o j = true → ops[j]? = some oj → oj.dst = some d → Φ j (a.tmps.getD d undef) w) →
    (Region.wanted o (yielded ops a.tmps) = true ∧ o.wp P a w (Stepped Φ i o a w) Q) ∨ (Region.wanted o (yielded ops a.tmps) = false ∧ ∀ d, o.dst = some d → Φ i undef w)

theorem wp_region_grow_or {P : Program} {ops : Array Oper} {Q : Exit → Act → World → Prop} {id : Nat} {a0 : Act} {w0 : World} (hm : P.follows .mixedOrders = true) (Φ : Facts) (hst : ∀ i v w w', Φ i v w → Below w.heap.size w w' → Φ i v w')
    (hok : regionOk ops a0.tmps.size = true) (step : ∀ i o, ops[i]? = some o → StepOr P ops Q Φ a0 w0 i o)
    (fin : ∀ a w, RegInv ops Φ a0 w0 (Array.replicate ops.size true) a w → Q .normal a w) : (Code.region id ops true).wp P Q a0 w0 := by
  refine wp_region_any hm (wpAny_inv hok (RegInv ops Φ a0 w0) (fun _ _ _ h => h.size) ?_ fin ops.size _ a0 _ RegInv.start ?_)
  · intro l a w i o hJ hil ho hie
    rcases step i o ho a w hJ.below hJ.defers hJ.tmps hJ.outer (fun j oj d hwt hoj hd => by obtain ⟨e, he, hej, hb⟩ := waitsFor_spec hwt; exact hJ.facts j oj d hoj (hej ▸ hie e he hb) hd) with ⟨hw, hwp⟩ | ⟨hw, hv⟩
    · unfold wpOp
      simp only [ho, hw, if_true]
      refine Or.inl (Oper.wp_mono ?_ hwp)
      rintro a' w' ⟨v, rfl, hb, hv⟩
      exact hJ.put hst hok ho hb hv
    · unfold wpOp
      simp only [ho, hw, Bool.false_eq_true, if_false]
      exact hJ.put hst hok ho (Below.refl _ _) hv
  · exact Nat.le_trans (List.length_filter_le _ _) (by simp)

def StepsOr (P : Program) (ops : Array Oper) (Q : Exit → Act → World → Prop) (Φ : Facts) (a0 : Act) (w0 : World) : Nat → List Oper → Prop
  | _, [] => True
  | i, o :: r => StepOr P ops Q Φ a0 w0 i o ∧ StepsOr P ops Q Φ a0 w0 (i + 1) r
theorem stepsOr_get {P : Program} {ops : Array Oper} {Q : Exit → Act → World → Prop} {Φ : Facts} {a0 : Act} {w0 : World} : ∀ {l : List Oper} {k : Nat}, StepsOr P ops Q Φ a0 w0 k l → ∀ i o, l[i]? = some o → StepOr P ops Q Φ a0 w0 (k + i) o
  | [], _, _, i, o, h => by simp at h
  | x :: r, k, hs, i, o, h => by
    cases i with
    | zero => simp at h; subst h; exact hs.1
    | succ i =>
      have := stepsOr_get hs.2 i o (by simpa using h)
      rwa [show k + 1 + i = k + (i + 1) by omega] at this
theorem steps_or {P : Program} {ops : Array Oper} {Q : Exit → Act → World → Prop} {Φ : Facts} {a0 : Act} {w0 : World} (H : StepsOr P ops Q Φ a0 w0 0 ops.toList) : ∀ i o, ops[i]? = some o → StepOr P ops Q Φ a0 w0 i o := by
  intro i o ho
  have := stepsOr_get H i o (by simpa using ho)
  rwa [Nat.zero_add] at this

/-- What a slot stands for: a value; a value if a condition holds; anything with a property. -/
inductive Du where
  | val (v : Value) | opt (b : Bool) (v : Value) | pred (p : Value → Prop)
def Du.holds (v : Value) : Du → Prop
  | .val u => v = u
  | .opt b u => b = true → v = u
  | .pred p => p v
def FU (ds : List Du) : Facts := fun i v _ => match ds[i]? with
  | some d => d.holds v
  | none => True
theorem FU_grow (ds : List Du) (i : Nat) (v : Value) (w w' : World) (h : FU ds i v w) (_ : Below w.heap.size w w') : FU ds i v w' := h
theorem FU_at {ds : List Du} {i : Nat} {v : Value} {w : World} (d : Du) (hd : ds[i]? = some d) (h : FU ds i v w) : d.holds v := by
  unfold FU at h
  rw [hd] at h
  exact h
theorem FU_mk {ds : List Du} {i : Nat} {v : Value} {w : World} (d : Du) (hd : ds[i]? = some d) (h : d.holds v) : FU ds i v w := by
  unfold FU
  rw [hd]
  exact h
theorem uval_at {ops : Array Oper} {ds : List Du} {o : Oper} {a : Act} {w : World} (hp : HP ops (FU ds) o a w) (j d : Nat) {u : Value} (h : fromOp ops o j d = true) (hd : ds[j]? = some (.val u)) : a.tmps.getD d undef = u := FU_at _ hd (facts_at hp j d h)
theorem uopt_at {ops : Array Oper} {ds : List Du} {o : Oper} {a : Act} {w : World} (hp : HP ops (FU ds) o a w) (j d : Nat) {b : Bool} {u : Value} (h : fromOp ops o j d = true) (hd : ds[j]? = some (.opt b u)) (hb : b = true) : a.tmps.getD d undef = u := FU_at _ hd (facts_at hp j d h) hb
theorem upred_at {ops : Array Oper} {ds : List Du} {o : Oper} {a : Act} {w : World} (hp : HP ops (FU ds) o a w) (j d : Nat) {p : Value → Prop} (h : fromOp ops o j d = true) (hd : ds[j]? = some (.pred p)) : p (a.tmps.getD d undef) := FU_at _ hd (facts_at hp j d h)
theorem wanted_yes {o : Oper} {y : Nat → Option Bool} {k : Nat} {b : Bool} (hg : o.guard = some (k, b)) (hy : y k = some b) : Region.wanted o y = true := by
  unfold Region.wanted
  rw [hg]
  simp [hy]
theorem wanted_no {o : Oper} {y : Nat → Option Bool} {k : Nat} {b : Bool} (hg : o.guard = some (k, b)) (hy : y k = some (!b)) : Region.wanted o y = false := by
  unfold Region.wanted
  rw [hg]
  cases b <;> simp [hy]
end Go.Proofs.YtnobmffgchlijaaGreatDoor
