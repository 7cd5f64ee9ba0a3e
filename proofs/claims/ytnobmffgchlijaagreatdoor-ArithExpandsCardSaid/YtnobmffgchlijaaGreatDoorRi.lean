/- A region whose order is fixed: one proof for each operation, where a guard may strike it out; no path is split. -/
import Derived.Test.YtnobmffgchlijaaGreatDoorRu
namespace Go.Proofs.YtnobmffgchlijaaGreatDoor
open Go.RowKit

abbrev HI (ops : Array Oper) (Φ : Facts) (i : Nat) (a : Act) (w : World) : Prop := ∀ j oj d, j < i → ops[j]? = some oj → oj.dst = some d → Φ j (a.tmps.getD d undef) w
/-- What operation i owes: from the facts of all operations before it. -/
def StepFix (P : Program) (ops : Array Oper) (Q : Exit → Act → World → Prop) (Φ : Facts) (a0 : Act) (w0 : World) (i : Nat) (o : Oper) : Prop :=
  ∀ a w, Below w0.heap.size w0 w → a.defers = a0.defers → a.tmps.size = a0.tmps.size →
    (∀ t, noDst ops t = true → a.tmps.getD t undef = a0.tmps.getD t undef) → HI ops Φ i a w →
    (Region.wanted o (yielded ops a.tmps) = true ∧ o.wp P a w (Stepped Φ i o a w) Q) ∨ (Region.wanted o (yielded ops a.tmps) = false ∧ ∀ d, o.dst = some d → Φ i undef w)

theorem wpList_fix {P : Program} {ops : Array Oper} {Q : Exit → Act → World → Prop} {a0 : Act} {w0 : World} (Φ : Facts) (hst : ∀ i v w w', Φ i v w → Below w.heap.size w w' → Φ i v w')
    (hok : regionOk ops a0.tmps.size = true) (step : ∀ i o, ops[i]? = some o → StepFix P ops Q Φ a0 w0 i o)
    (fin : ∀ a w, RegInv ops Φ a0 w0 (Array.replicate ops.size true) a w → Q .normal a w) :
    ∀ (n i : Nat) (listed : Array Bool) (a : Act) (w : World), i + n = ops.size → RegInv ops Φ a0 w0 listed a w → (∀ j, j < i → listed.getD j false = true) → wpList P ops Q (ops.toList.drop i) a w := by
  intro n
  induction n with
  | zero =>
    intro i listed a w hi hJ hl
    have he : listed = Array.replicate ops.size true := by
      apply Array.ext
      · rw [hJ.size, Array.size_replicate]
      · intro j h1 h2
        have := hl j (by rw [hJ.size] at h1; omega)
        simp only [Array.getD, h1, dif_pos] at this
        simpa using this
    subst he
    rw [List.drop_eq_nil_of_le (by simp; omega)]
    exact fin a w hJ
  | succ n ih =>
    intro i listed a w hi hJ hl
    have hlt : i < ops.toList.length := by simp; omega
    rw [List.drop_eq_getElem_cons hlt]
    have ho : ops[i]? = some ops.toList[i] := by simp
    have hnext : ∀ j, j < i + 1 → (listed.setIfInBounds i true).getD j false = true := by
      intro j hj
      by_cases e : j = i
      · subst e
        have : j < listed.size := by rw [hJ.size]; omega
        simp [Array.getD_eq_getD_getElem?, this]
      · have := hl j (by omega)
        simpa [Array.getD_eq_getD_getElem?, Array.getElem?_setIfInBounds_ne (fun h => e h.symm)] using this
    unfold wpList
    rcases step i _ ho a w hJ.below hJ.defers hJ.tmps hJ.outer (fun j oj d hj hoj hd => hJ.facts j oj d hoj (hl j hj) hd) with ⟨hw, hwp⟩ | ⟨hw, hv⟩
    · rw [if_pos hw]
      refine Or.inl (Oper.wp_mono ?_ hwp)
      rintro a' w' ⟨v, rfl, hb, hv⟩
      exact ih (i + 1) _ _ _ (by omega) (hJ.put hst hok ho hb hv) hnext
    · rw [hw]
      exact ih (i + 1) _ _ _ (by omega) (hJ.put hst hok ho (Below.refl _ _) hv) hnext

theorem wp_region_fix {P : Program} {ops : Array Oper} {Q : Exit → Act → World → Prop} {id : Nat} {a0 : Act} {w0 : World} (Φ : Facts) (hst : ∀ i v w w', Φ i v w → Below w.heap.size w w' → Φ i v w')
    (hok : regionOk ops a0.tmps.size = true) (step : ∀ i o, ops[i]? = some o → StepFix P ops Q Φ a0 w0 i o)
    (fin : ∀ a w, RegInv ops Φ a0 w0 (Array.replicate ops.size true) a w → Q .normal a w) : (Code.region id ops false).wp P Q a0 w0 := by
  refine wp_region_list ?_
  have := wpList_fix (P := P) (ops := ops) (Q := Q) Φ hst hok step fin ops.size 0 (Array.replicate ops.size false) a0 w0 (by omega) ⟨by simp, Below.refl _ _, rfl, rfl, fun _ _ => rfl, ?_⟩ (fun j hj => absurd hj (by omega))
  · simpa using this
  · intro i o d ho hl _
    have hi := (Array.getElem?_eq_some_iff.1 ho).1
    simp [Array.getD_eq_getD_getElem?, hi] at hl

def StepsFix (P : Program) (ops : Array Oper) (Q : Exit → Act → World → Prop) (Φ : Facts) (a0 : Act) (w0 : World) : Nat → List Oper → Prop
  | _, [] => True
  | i, o :: r => StepFix P ops Q Φ a0 w0 i o ∧ StepsFix P ops Q Φ a0 w0 (i + 1) r
theorem stepsFix_get {P : Program} {ops : Array Oper} {Q : Exit → Act → World → Prop} {Φ : Facts} {a0 : Act} {w0 : World} : ∀ {l : List Oper} {k : Nat}, StepsFix P ops Q Φ a0 w0 k l → ∀ i o, l[i]? = some o → StepFix P ops Q Φ a0 w0 (k + i) o
  | [], _, _, i, o, h => by simp at h
  | x :: r, k, hs, i, o, h => by
    cases i with
    | zero => simp at h; subst h; exact hs.1
    | succ i =>
      have := stepsFix_get hs.2 i o (by simpa using h)
      rwa [show k + 1 + i = k + (i + 1) by omega] at this
theorem steps_fix {P : Program} {ops : Array Oper} {Q : Exit → Act → World → Prop} {Φ : Facts} {a0 : Act} {w0 : World} (H : StepsFix P ops Q Φ a0 w0 0 ops.toList) : ∀ i o, ops[i]? = some o → StepFix P ops Q Φ a0 w0 i o := by
  intro i o ho
  have := stepsFix_get H i o (by simpa using ho)
  rwa [Nat.zero_add] at this

def fromIn (ops : Array Oper) (i j d : Nat) : Bool := decide (j < i) && dstAt ops j d
theorem ival_at {ops : Array Oper} {ds : List Du} {i : Nat} {a : Act} {w : World} (hp : HI ops (FU ds) i a w) (j d : Nat) {u : Value} (h : fromIn ops i j d = true) (hd : ds[j]? = some (.val u)) : a.tmps.getD d undef = u := by
  unfold fromIn at h
  rw [Bool.and_eq_true, decide_eq_true_eq] at h
  obtain ⟨oj, h1, h2⟩ := dstAt_spec h.2
  exact FU_at _ hd (hp j oj d h.1 h1 h2)

/-- An operation's condition: its guard's own condition, and the guard's value. -/
def gon (c x b : Bool) : Bool := c && (x == b)
theorem gon_l {c x b : Bool} (h : gon c x b = true) : c = true := by unfold gon at h; simp at h; exact h.1
theorem gon_r {c x b : Bool} (h : gon c x b = true) : x = b := by unfold gon at h; simp at h; exact h.2
theorem gon_mk {c x b : Bool} (h : c = true) (h' : x = b) : gon c x b = true := by unfold gon; simp [h, h']
theorem wanted_gon {ops : Array Oper} {tmps : Array Value} {o : Oper} {k d : Nat} {c x b : Bool} (hg : o.guard = some (k, b)) (hd : dstAt ops k d = true) (hk : tmps.getD d undef = cond c (.bool x) undef) : Region.wanted o (yielded ops tmps) = gon c x b := by
  obtain ⟨oj, h1, h2⟩ := dstAt_spec hd
  unfold Region.wanted
  rw [hg]
  cases c with
  | true =>
    have := yielded_bool h1 h2 (b := x) hk
    simp only [this]
    unfold gon
    cases x <;> cases b <;> rfl
  | false =>
    have : yielded ops tmps k = none := by
      rw [Array.getD_eq_getD_getElem?] at hk
      cases ht : tmps[d]? with
      | none => simp [yielded, h1, h2, ht]
      | some v =>
        rw [ht] at hk
        simp only [Option.getD_some, cond_false] at hk
        subst hk
        simp [yielded, h1, h2, ht, undef]
    simp only [this]
    unfold gon
    cases x <;> cases b <;> rfl
end Go.Proofs.YtnobmffgchlijaaGreatDoor
