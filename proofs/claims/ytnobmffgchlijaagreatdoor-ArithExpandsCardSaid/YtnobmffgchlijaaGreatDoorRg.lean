/- A region that draws its order and whose operations only add to memory: one proof for each operation serves every order. -/
import Derived.Test.YtnobmffgchlijaaGreatDoorTm
import Derived.Orders
import Derived.WalkKit
namespace Go.Proofs.YtnobmffgchlijaaGreatDoor
open Go.RowKit

/-- Edges lead back; each slot is written once, and exists. -/
def regionOk (ops : Array Oper) (n : Nat) : Bool := (List.range ops.size).all fun i =>
  match ops[i]? with
  | some o => (o.after.all fun e => decide (e.on < i)) && (match o.dst with
    | some d => decide (d < n) && (List.range i).all fun j => ((ops[j]?).bind (·.dst)) != some d
    | none => true)
  | none => true

theorem regionOk_spec {ops : Array Oper} {n : Nat} (h : regionOk ops n = true) (i : Nat) (o : Oper) (ho : ops[i]? = some o) :
    (∀ e ∈ o.after, e.on < i) ∧ ∀ d, o.dst = some d → d < n ∧ ∀ j oj, j < i → ops[j]? = some oj → oj.dst ≠ some d := by
  have hi : i < ops.size := (Array.getElem?_eq_some_iff.1 ho).1
  have h1 := List.all_eq_true.1 h i (List.mem_range.2 hi)
  simp only [ho, Bool.and_eq_true, Array.all_eq_true_iff_forall_mem, decide_eq_true_eq] at h1
  refine ⟨h1.1, fun d hd => ?_⟩
  have h2 := h1.2
  simp only [hd, Bool.and_eq_true, decide_eq_true_eq, List.all_eq_true, List.mem_range, bne_iff_ne, ne_eq] at h2
  refine ⟨h2.1, fun j oj hj hoj e => h2.2 j hj ?_⟩
  simp [hoj, e]

/-- No operation writes slot t. -/
def noDst (ops : Array Oper) (t : Tmp) : Bool := ops.all fun o => o.dst != some t
theorem noDst_spec {ops : Array Oper} {t : Tmp} (h : noDst ops t = true) (i : Nat) (o : Oper) (ho : ops[i]? = some o) : o.dst ≠ some t := by
  unfold noDst at h
  rw [Array.all_eq_true_iff_forall_mem] at h
  have := h o (Array.mem_of_getElem? ho)
  simpa using this
/-- Operation o waits for operation j. -/
def waitsFor (o : Oper) (j : Nat) : Bool := o.after.any fun e => e.on == j && Region.binds .any e
theorem waitsFor_spec {o : Oper} {j : Nat} (h : waitsFor o j = true) : ∃ e ∈ o.after, e.on = j ∧ Region.binds .any e = true := by
  unfold waitsFor at h
  obtain ⟨k, hk, h⟩ := Array.any_eq_true.1 h
  simp only [Bool.and_eq_true, beq_iff_eq] at h
  exact ⟨o.after[k], Array.getElem_mem hk, h.1, h.2⟩
/-- Operation o waits for all the others. -/
def waitsAll (o : Oper) (m n : Nat) : Bool := (List.range n).all fun j => j == m || waitsFor o j
theorem waitsAll_spec {o : Oper} {m n : Nat} (h : waitsAll o m n = true) (j : Nat) (hj : j < n) (hne : j ≠ m) : waitsFor o j = true := by
  have := List.all_eq_true.1 h j (List.mem_range.2 hj)
  simpa [hne] using this
theorem yielded_bool {ops : Array Oper} {tmps : Array Value} {j d : Nat} {b : Bool} {o : Oper} (ho : ops[j]? = some o) (hd : o.dst = some d) (hv : tmps.getD d undef = .bool b) : yielded ops tmps j = some b := by
  have : tmps[d]? = some (.bool b) := by
    rw [Array.getD_eq_getD_getElem?] at hv
    cases h : tmps[d]? with
    | none => rw [h] at hv; cases hv
    | some v => rw [h] at hv; simpa using hv
  simp [yielded, ho, hd, this]

/-- What holds of the slot that operation i writes. -/
abbrev Facts := Nat → Value → World → Prop

structure RegInv (ops : Array Oper) (Φ : Facts) (a0 : Act) (w0 : World) (listed : Array Bool) (a : Act) (w : World) : Prop where
  size : listed.size = ops.size
  below : Below w0.heap.size w0 w
  defers : a.defers = a0.defers
  tmps : a.tmps.size = a0.tmps.size
  outer : ∀ t, noDst ops t = true → a.tmps.getD t undef = a0.tmps.getD t undef
  facts : ∀ i o d, ops[i]? = some o → listed.getD i false = true → o.dst = some d → Φ i (a.tmps.getD d undef) w

/-- Where operation i has come to. -/
def Stepped (Φ : Facts) (i : Nat) (o : Oper) (a : Act) (w : World) (a' : Act) (w' : World) : Prop := ∃ v, a' = a.put o.dst v ∧ Below w.heap.size w w' ∧ ∀ d, o.dst = some d → Φ i v w'
theorem Stepped.at {Φ : Facts} {i : Nat} {o : Oper} {a : Act} {w w' : World} {v : Value} {tm : Array Value} {df : List Deferred} (hv : tm = (a.put o.dst v).tmps) (hf : a.defers = df) (hb : Below w.heap.size w w') (hΦ : Φ i v w') :
    Stepped Φ i o a w ⟨tm, df⟩ w' := by
  refine ⟨v, ?_, hb, fun _ _ => hΦ⟩
  subst hv hf
  cases o.dst <;> rfl
/-- What operation i owes: from the facts of the operations that it waits for, in a world that has only grown. -/
def StepAt (P : Program) (ops : Array Oper) (Q : Exit → Act → World → Prop) (Φ : Facts) (a0 : Act) (w0 : World) (i : Nat) (o : Oper) : Prop :=
  ∀ a w, Below w0.heap.size w0 w → a.defers = a0.defers → a.tmps.size = a0.tmps.size →
    (∀ t, noDst ops t = true → a.tmps.getD t undef = a0.tmps.getD t undef) →
    (∀ j oj d, waitsFor o j = true → ops[j]? = some oj → oj.dst = some d → Φ j (a.tmps.getD d undef) w) →
    Region.wanted o (yielded ops a.tmps) = true ∧ o.wp P a w (Stepped Φ i o a w) Q

/-- An invariant of what has been listed carries a region through every order. -/
theorem wpAny_inv {P : Program} {ops : Array Oper} {Q : Exit → Act → World → Prop} {n : Nat} (hok : regionOk ops n = true) (J : Array Bool → Act → World → Prop) (hsize : ∀ l a w, J l a w → l.size = ops.size)
    (step : ∀ l a w i o, J l a w → l.getD i true = false → ops[i]? = some o → (∀ e ∈ o.after, Region.binds .any e = true → l.getD e.on false = true) → wpOp P ops Q i (fun a' w' => J (l.setIfInBounds i true) a' w') a w)
    (fin : ∀ a w, J (Array.replicate ops.size true) a w → Q .normal a w) :
    ∀ (fuel : Nat) (listed : Array Bool) (a : Act) (w : World), J listed a w → ((List.range ops.size).filter fun i => !listed.getD i true).length ≤ fuel →
      wpAny P .any ops Q fuel listed a w := by
  have hend : ∀ (listed : Array Bool) (a : Act) (w : World), J listed a w → Region.ready .any ops listed = [] → Q .normal a w := by
    intro listed a w hJ hr
    have hall : ∀ i, i < ops.size → listed.getD i true = true := by
      intro i
      induction i using Nat.strongRecOn with
      | _ i ih =>
        intro hi
        by_cases hl : listed.getD i true = true
        · exact hl
        · exfalso
          have hmem : i ∈ Region.ready .any ops listed := by
            unfold Region.ready
            obtain ⟨o, ho⟩ : ∃ o, ops[i]? = some o := ⟨ops[i], Array.getElem?_eq_getElem hi⟩
            refine List.mem_filter.2 ⟨List.mem_range.2 hi, ?_⟩
            simp only [ho, Option.map_some, Option.getD_some, Bool.and_eq_true, Bool.not_eq_true', Array.all_eq_true_iff_forall_mem, Bool.or_eq_true]
            refine ⟨by simpa using hl, fun e he => Or.inr ?_⟩
            have hlt := (regionOk_spec hok i o ho).1 e he
            have := ih e.on hlt (by omega)
            have hs : e.on < listed.size := by rw [hsize _ _ _ hJ]; omega
            simp only [Array.getD, hs, dif_pos] at this ⊢
            exact this
          rw [hr] at hmem
          cases hmem
    have heq : listed = Array.replicate ops.size true := by
      apply Array.ext
      · rw [hsize _ _ _ hJ, Array.size_replicate]
      · intro i h1 h2
        have := hall i (by rw [← hsize _ _ _ hJ]; exact h1)
        simp only [Array.getD, h1, dif_pos] at this
        simpa using this
    exact fin a w (heq ▸ hJ)
  intro fuel
  induction fuel with
  | zero =>
    intro listed a w hJ hf
    have hr : Region.ready .any ops listed = [] := by
      unfold Region.ready
      rw [List.filter_eq_nil_iff]
      intro i hi h
      have hnil := List.length_eq_zero_iff.1 (Nat.le_zero.1 hf)
      rw [List.filter_eq_nil_iff] at hnil
      simp only [Bool.and_eq_true] at h
      exact hnil i hi h.1
    exact ⟨hr, hend listed a w hJ hr⟩
  | succ fuel ih =>
    intro listed a w hJ hf
    refine ⟨hend listed a w hJ, fun i hi => ?_⟩
    unfold Region.ready at hi
    obtain ⟨hir, hib⟩ := List.mem_filter.1 hi
    have hi' : i < ops.size := List.mem_range.1 hir
    obtain ⟨o, ho⟩ : ∃ o, ops[i]? = some o := ⟨ops[i], Array.getElem?_eq_getElem hi'⟩
    simp only [ho, Option.map_some, Option.getD_some, Bool.and_eq_true, Bool.not_eq_true', Array.all_eq_true_iff_forall_mem, Bool.or_eq_true] at hib
    obtain ⟨hil, hie⟩ := hib
    refine wpOp_mono ?_ (step listed a w i o hJ hil ho (fun e he hb => (hie e he).resolve_left (by rw [hb]; decide)))
    intro a' w' hJ'
    have hls : i < listed.size := by rw [hsize _ _ _ hJ]; exact hi'
    refine ih _ _ _ hJ' ?_
    have hlt : ((List.range ops.size).filter fun j => !(listed.setIfInBounds i true).getD j true).length < ((List.range ops.size).filter fun j => !listed.getD j true).length := by
      have hsub : ((List.range ops.size).filter fun j => !(listed.setIfInBounds i true).getD j true) = ((List.range ops.size).filter fun j => !listed.getD j true).filter (fun j => j != i) := by
        rw [List.filter_filter]
        apply List.filter_congr
        intro j hj
        by_cases e : j = i
        · subst e; simp [Array.getD_eq_getD_getElem?, hls]
        · simp [Array.getD_eq_getD_getElem?, Array.getElem?_setIfInBounds_ne (fun h => e h.symm), e]
      rw [hsub]
      refine List.length_filter_lt_length_iff_exists.2 ⟨i, List.mem_filter.2 ⟨List.mem_range.2 hi', by simpa using hil⟩, by simp⟩
    omega

/-- One step of the invariant. -/
theorem RegInv.put {ops : Array Oper} {Φ : Facts} {a0 : Act} {w0 : World} (hst : ∀ i v w w', Φ i v w → Below w.heap.size w w' → Φ i v w') (hok : regionOk ops a0.tmps.size = true)
    {listed : Array Bool} {a : Act} {w : World} (hJ : RegInv ops Φ a0 w0 listed a w) {i : Nat} {o : Oper} (ho : ops[i]? = some o) {v : Value} {w' : World} (hb : Below w.heap.size w w') (hv : ∀ d, o.dst = some d → Φ i v w') :
    RegInv ops Φ a0 w0 (listed.setIfInBounds i true) (a.put o.dst v) w' := by
  refine ⟨by simp [hJ.size], hJ.below.trans (hb.mono hJ.below.size), ?_, ?_, ?_, ?_⟩
  · rw [← hJ.defers]; cases o.dst <;> rfl
  · rw [← hJ.tmps]; cases o.dst <;> simp [Act.put]
  · intro t ht
    rw [← hJ.outer t ht]
    cases hd : o.dst with
    | none => rfl
    | some d =>
      have hne : d ≠ t := fun e => noDst_spec ht i o ho (by rw [hd, e])
      simp [Act.put, Array.getD_eq_getD_getElem?, Array.getElem?_setIfInBounds_ne hne]
  · intro j oj d hoj hlj hd
    by_cases hji : j = i
    · subst hji
      obtain rfl : oj = o := by rw [ho] at hoj; exact (Option.some.inj hoj).symm
      have hdn := ((regionOk_spec hok j oj ho).2 d hd).1
      rw [hd]
      have e : (a.put (some d) v).tmps.getD d undef = v := by
        have : d < a.tmps.size := by rw [hJ.tmps]; exact hdn
        simp [Act.put, Array.getD_eq_getD_getElem?, this]
      rw [e]
      exact hv d hd
    · have hlj' : listed.getD j false = true := by
        simpa [Array.getD_eq_getD_getElem?, Array.getElem?_setIfInBounds_ne (fun e => hji e.symm)] using hlj
      have hf0 := hst _ _ _ _ (hJ.facts j oj d hoj hlj' hd) hb
      cases hd' : o.dst with
      | none => exact hf0
      | some d' =>
        have hne : d' ≠ d := by
          intro e
          subst e
          rcases Nat.lt_or_gt_of_ne hji with h | h
          · exact ((regionOk_spec hok i o ho).2 d' hd').2 j oj h hoj hd
          · exact ((regionOk_spec hok j oj hoj).2 d' hd).2 i o h ho hd'
        simpa [Act.put, Array.getD_eq_getD_getElem?, Array.getElem?_setIfInBounds_ne hne] using hf0

theorem RegInv.start {ops : Array Oper} {Φ : Facts} {a0 : Act} {w0 : World} : RegInv ops Φ a0 w0 (Array.replicate ops.size false) a0 { w0 with drawn := w0.drawn + 1 } := by
  refine ⟨by simp, (Below.refl _ w0).drew, rfl, rfl, fun _ _ => rfl, ?_⟩
  intro i o d ho hl _
  have hi := (Array.getElem?_eq_some_iff.1 ho).1
  simp [Array.getD_eq_getD_getElem?, hi] at hl

/-- The rule. -/
theorem wp_region_grow {P : Program} {ops : Array Oper} {Q : Exit → Act → World → Prop} {id : Nat} {a0 : Act} {w0 : World} (hm : P.follows .mixedOrders = true) (Φ : Facts) (hst : ∀ i v w w', Φ i v w → Below w.heap.size w w' → Φ i v w')
    (hok : regionOk ops a0.tmps.size = true) (step : ∀ i o, ops[i]? = some o → StepAt P ops Q Φ a0 w0 i o)
    (fin : ∀ a w, RegInv ops Φ a0 w0 (Array.replicate ops.size true) a w → Q .normal a w) : (Code.region id ops true).wp P Q a0 w0 := by
  refine wp_region_any hm (wpAny_inv hok (RegInv ops Φ a0 w0) (fun _ _ _ h => h.size) ?_ fin ops.size _ a0 _ RegInv.start ?_)
  · intro l a w i o hJ hil ho hie
    obtain ⟨hw, hwp⟩ := step i o ho a w hJ.below hJ.defers hJ.tmps hJ.outer (fun j oj d hwt hoj hd => by obtain ⟨e, he, hej, hb⟩ := waitsFor_spec hwt; exact hJ.facts j oj d hoj (hej ▸ hie e he hb) hd)
    unfold wpOp
    simp only [ho, hw, if_true]
    refine Or.inl (Oper.wp_mono ?_ hwp)
    rintro a' w' ⟨v, rfl, hb, hv⟩
    exact hJ.put hst hok ho hb hv
  · exact Nat.le_trans (List.length_filter_le _ _) (by simp)

/-- The rule where a last operation, which waits for all others, may do more. -/
theorem wp_region_grow_last {P : Program} {ops : Array Oper} {Q : Exit → Act → World → Prop} {id : Nat} {a0 : Act} {w0 : World} (hm : P.follows .mixedOrders = true) (Φ : Facts) (hst : ∀ i v w w', Φ i v w → Below w.heap.size w w' → Φ i v w')
    (hok : regionOk ops a0.tmps.size = true) (m : Nat) (om : Oper) (hom : ops[m]? = some om) (hwait : waitsAll om m ops.size = true)
    (step : ∀ i o, ops[i]? = some o → i ≠ m → StepAt P ops Q Φ a0 w0 i o)
    (last : ∀ a w, Below w0.heap.size w0 w → a.defers = a0.defers → a.tmps.size = a0.tmps.size → (∀ t, noDst ops t = true → a.tmps.getD t undef = a0.tmps.getD t undef) →
      (∀ i o d, ops[i]? = some o → i ≠ m → o.dst = some d → Φ i (a.tmps.getD d undef) w) → wpOp P ops Q m (Q .normal) a w) : (Code.region id ops true).wp P Q a0 w0 := by
  have hwait := waitsAll_spec hwait
  refine wp_region_any hm (wpAny_inv hok (fun l a w => l.size = ops.size ∧ ((l.getD m true = false ∧ RegInv ops Φ a0 w0 l a w) ∨ (l.getD m false = true ∧ Q .normal a w ∧ ∀ j, j < ops.size → l.getD j false = true))) (fun _ _ _ h => h.1) ?_ ?_ ops.size _ a0 _ ⟨by simp, Or.inl ⟨?_, RegInv.start⟩⟩ ?_)
  · rintro l a w i o ⟨hls, hJ⟩ hil ho hie
    have hi' : i < ops.size := (Array.getElem?_eq_some_iff.1 ho).1
    rcases hJ with ⟨hlm, hJ⟩ | ⟨_, _, hall⟩
    · by_cases him : i = m
      · subst him
        obtain rfl : o = om := by rw [hom] at ho; exact (Option.some.inj ho).symm
        have hothers : ∀ j, j < ops.size → j ≠ i → l.getD j false = true := by
          intro j hj hne
          obtain ⟨e, he, hej, hb⟩ := waitsFor_spec (hwait j hj hne)
          rw [← hej]; exact hie e he hb
        refine wpOp_mono ?_ (last a w hJ.below hJ.defers hJ.tmps hJ.outer (fun j oj d hoj hne hd => hJ.facts j oj d hoj (hothers j (Array.getElem?_eq_some_iff.1 hoj).1 hne) hd))
        intro a' w' hQ
        refine ⟨by simp [hls], Or.inr ⟨?_, hQ, ?_⟩⟩
        · simp [Array.getD_eq_getD_getElem?, hls, hi']
        · intro j hj
          by_cases e : j = i
          · subst e; simp [Array.getD_eq_getD_getElem?, hls, hi']
          · have := hothers j hj e
            simpa [Array.getD_eq_getD_getElem?, Array.getElem?_setIfInBounds_ne (fun h => e h.symm)] using this
      · obtain ⟨hw, hwp⟩ := step i o ho him a w hJ.below hJ.defers hJ.tmps hJ.outer (fun j oj d hwt hoj hd => by obtain ⟨e, he, hej, hb⟩ := waitsFor_spec hwt; exact hJ.facts j oj d hoj (hej ▸ hie e he hb) hd)
        unfold wpOp
        simp only [ho, hw, if_true]
        refine Or.inl (Oper.wp_mono ?_ hwp)
        rintro a' w' ⟨v, rfl, hb, hv⟩
        exact ⟨by simp [hls], Or.inl ⟨by simpa [Array.getD_eq_getD_getElem?, Array.getElem?_setIfInBounds_ne him] using hlm, hJ.put hst hok ho hb hv⟩⟩
    · exfalso
      have h1 := hall i hi'
      have : i < l.size := by omega
      simp only [Array.getD, this, dif_pos] at h1 hil
      rw [h1] at hil; cases hil
  · rintro a w ⟨_, ⟨hm', _⟩ | ⟨_, hQ, _⟩⟩
    · have hms := (Array.getElem?_eq_some_iff.1 hom).1
      simp [Array.getD_eq_getD_getElem?, hms] at hm'
    · exact hQ
  · have hms := (Array.getElem?_eq_some_iff.1 hom).1
    simp [Array.getD_eq_getD_getElem?, hms]
  · exact Nat.le_trans (List.length_filter_le _ _) (by simp)

/-- The steps of a list of operations, one after the other. -/
def StepsOf (P : Program) (ops : Array Oper) (Q : Exit → Act → World → Prop) (Φ : Facts) (a0 : Act) (w0 : World) : Nat → List Oper → Prop
  | _, [] => True
  | i, o :: r => StepAt P ops Q Φ a0 w0 i o ∧ StepsOf P ops Q Φ a0 w0 (i + 1) r
theorem stepsOf_get {P : Program} {ops : Array Oper} {Q : Exit → Act → World → Prop} {Φ : Facts} {a0 : Act} {w0 : World} : ∀ {l : List Oper} {k : Nat}, StepsOf P ops Q Φ a0 w0 k l → ∀ i o, l[i]? = some o → StepAt P ops Q Φ a0 w0 (k + i) o
  | [], _, _, i, o, h => by simp at h
  | x :: r, k, hs, i, o, h => by
    cases i with
    | zero => simp at h; subst h; exact hs.1
    | succ i =>
      have := stepsOf_get hs.2 i o (by simpa using h)
      rwa [show k + 1 + i = k + (i + 1) by omega] at this
theorem steps_all {P : Program} {ops : Array Oper} {Q : Exit → Act → World → Prop} {Φ : Facts} {a0 : Act} {w0 : World} (H : StepsOf P ops Q Φ a0 w0 0 ops.toList) : ∀ i o, ops[i]? = some o → StepAt P ops Q Φ a0 w0 i o := by
  intro i o ho
  have := stepsOf_get H i o (by simpa using ho)
  rwa [Nat.zero_add] at this
theorem steps_but {P : Program} {ops : Array Oper} {Q : Exit → Act → World → Prop} {Φ : Facts} {a0 : Act} {w0 : World} (m : Nat) (hm : ops.size = m + 1) (H : StepsOf P ops Q Φ a0 w0 0 (ops.toList.take m)) :
    ∀ i o, ops[i]? = some o → i ≠ m → StepAt P ops Q Φ a0 w0 i o := by
  intro i o ho hne
  have hi := (Array.getElem?_eq_some_iff.1 ho).1
  have := stepsOf_get H i o (by rw [List.getElem?_take_of_lt (by omega)]; simpa using ho)
  rwa [Nat.zero_add] at this
/-- What a step knows of the operations that it waits for. -/
abbrev HP (ops : Array Oper) (Φ : Facts) (o : Oper) (a : Act) (w : World) : Prop := ∀ j oj d, waitsFor o j = true → ops[j]? = some oj → oj.dst = some d → Φ j (a.tmps.getD d undef) w
def dstAt (ops : Array Oper) (j d : Nat) : Bool := match ops[j]? with
  | some oj => oj.dst == some d
  | none => false
def fromOp (ops : Array Oper) (o : Oper) (j d : Nat) : Bool := waitsFor o j && dstAt ops j d
theorem dstAt_spec {ops : Array Oper} {j d : Nat} (h : dstAt ops j d = true) : ∃ oj, ops[j]? = some oj ∧ oj.dst = some d := by
  unfold dstAt at h
  cases ho : ops[j]? with
  | none => rw [ho] at h; cases h
  | some oj => rw [ho] at h; exact ⟨oj, rfl, by simpa using h⟩
theorem facts_at {ops : Array Oper} {Φ : Facts} {o : Oper} {a : Act} {w : World} (hp : HP ops Φ o a w) (j d : Nat) (h : fromOp ops o j d = true) : Φ j (a.tmps.getD d undef) w := by
  unfold fromOp at h
  rw [Bool.and_eq_true] at h
  obtain ⟨oj, h1, h2⟩ := dstAt_spec h.2
  exact hp j oj d h.1 h1 h2
theorem yielded_at {ops : Array Oper} {tmps : Array Value} {k d : Nat} {b : Bool} (h : dstAt ops k d = true) (hv : tmps.getD d undef = .bool b) : yielded ops tmps k = some b := by
  obtain ⟨oj, h1, h2⟩ := dstAt_spec h
  exact yielded_bool h1 h2 hv
theorem RegInv.at_end {ops : Array Oper} {Φ : Facts} {a0 a : Act} {w0 w : World} (hJ : RegInv ops Φ a0 w0 (Array.replicate ops.size true) a w) (j d : Nat) (h : dstAt ops j d = true) : Φ j (a.tmps.getD d undef) w := by
  obtain ⟨oj, h1, h2⟩ := dstAt_spec h
  have hj := (Array.getElem?_eq_some_iff.1 h1).1
  exact hJ.facts j oj d h1 (by simp [Array.getD_eq_getD_getElem?, hj]) h2
theorem wpOp_of {P : Program} {ops : Array Oper} {Q : Exit → Act → World → Prop} {R : Act → World → Prop} {i : Nat} {o : Oper} {a : Act} {w : World} (ho : ops[i]? = some o) (hg : o.guard = none) (h : o.wp P a w R Q) : wpOp P ops Q i R a w := by
  have hw : Region.wanted o (yielded ops a.tmps) = true := by unfold Region.wanted; rw [hg]
  unfold wpOp
  simp only [ho, hw, if_true]
  exact Or.inl h
end Go.Proofs.YtnobmffgchlijaaGreatDoor
