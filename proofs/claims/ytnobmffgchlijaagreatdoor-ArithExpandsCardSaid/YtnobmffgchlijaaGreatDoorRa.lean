/- The same inside a fence: a region that draws its order: a head whose operations only add to memory, in any order; then a tail that waits for the head. -/
import Derived.Test.YtnobmffgchlijaaGreatDoorRt
import Derived.OrdersIn
import Derived.TacticsIn
import Derived.CallsIn
namespace Go.Proofs.YtnobmffgchlijaaGreatDoor
open Go.RowKit

/-- Slots are in range and written once; what binds an operation comes before it. -/
def regionB (ops : Array Oper) (n : Nat) : Bool := (List.range ops.size).all fun i =>
  match ops[i]? with
  | none => true
  | some o => (o.after.all fun e => !Region.binds .any e || decide (e.on < i)) && (match o.dst with
    | none => true
    | some d => decide (d < n) && (List.range i).all fun j => match ops[j]? with
      | some oj => oj.dst != some d
      | none => true)
theorem regionB_spec {ops : Array Oper} {n : Nat} (h : regionB ops n = true) (i : Nat) (o : Oper) (ho : ops[i]? = some o) :
    (∀ e ∈ o.after, Region.binds .any e = true → e.on < i) ∧ ∀ d, o.dst = some d → d < n ∧ ∀ j oj, j < i → ops[j]? = some oj → oj.dst ≠ some d := by
  unfold regionB at h
  have h1 := List.all_eq_true.1 h i (List.mem_range.2 (Array.getElem?_eq_some_iff.1 ho).1)
  simp only [ho, Bool.and_eq_true] at h1
  refine ⟨fun e he hb => ?_, fun d hd => ?_⟩
  · have := (Array.all_eq_true_iff_forall_mem.1 h1.1) e he
    simpa [hb] using this
  · have h2 := h1.2
    rw [hd] at h2
    simp only [Bool.and_eq_true] at h2
    refine ⟨of_decide_eq_true h2.1, fun j oj hj hoj => ?_⟩
    have h3 := List.all_eq_true.1 h2.2 j (List.mem_range.2 hj)
    simp only [hoj] at h3
    simpa using h3

theorem HeadInvT.putB {ops : Array Oper} {n : Nat} {Φ : Facts} {a0 : Act} {w0 : World} (hst : ∀ i v w w', Φ i v w → Below w.heap.size w w' → Φ i v w') (hok : regionB ops a0.tmps.size = true)
    {listed : Array Bool} {a : Act} {w : World} (hJ : HeadInvT ops n Φ a0 w0 listed a w) {i : Nat} {o : Oper} (hin : i < n) (ho : ops[i]? = some o) {v : Value} {w' : World} (hb : Below w.heap.size w w') (hv : ∀ d, o.dst = some d → Φ i v w') :
    HeadInvT ops n Φ a0 w0 (listed.setIfInBounds i true) (a.put o.dst v) w' := by
  refine ⟨hJ.below.trans (hb.mono hJ.below.size), ?_, ?_, ?_, ?_⟩
  · rw [← hJ.defers]; cases o.dst <;> rfl
  · rw [← hJ.tmps]; cases o.dst <;> simp [Act.put]
  · intro t ht
    rw [← hJ.outer t ht]
    cases hd : o.dst with
    | none => rfl
    | some d =>
      have hne : d ≠ t := fun e => noDstTo_spec ht i hin o ho (by rw [hd, e])
      simp [Act.put, Array.getD_eq_getD_getElem?, Array.getElem?_setIfInBounds_ne hne]
  · intro j oj d hoj hjn hlj hd
    by_cases hji : j = i
    · subst hji
      obtain rfl : oj = o := by rw [ho] at hoj; exact (Option.some.inj hoj).symm
      have hdn := ((regionB_spec hok j oj ho).2 d hd).1
      rw [hd]
      have e : (a.put (some d) v).tmps.getD d undef = v := by
        have : d < a.tmps.size := by rw [hJ.tmps]; exact hdn
        simp [Act.put, Array.getD_eq_getD_getElem?, this]
      rw [e]
      exact hv d hd
    · have hlj' : listed.getD j false = true := by
        simpa [Array.getD_eq_getD_getElem?, Array.getElem?_setIfInBounds_ne (fun e => hji e.symm)] using hlj
      have hf0 := hst _ _ _ _ (hJ.facts j oj d hoj hjn hlj' hd) hb
      cases hd' : o.dst with
      | none => exact hf0
      | some d' =>
        have hne : d' ≠ d := by
          intro e
          subst e
          rcases Nat.lt_or_gt_of_ne hji with h | h
          · exact ((regionB_spec hok i o ho).2 d' hd').2 j oj h hoj hd
          · exact ((regionB_spec hok j oj hoj).2 d' hd).2 i o h ho hd'
        simpa [Act.put, Array.getD_eq_getD_getElem?, Array.getElem?_setIfInBounds_ne hne] using hf0

/-- From n on, each operation waits for all before n. -/
def headOk (ops : Array Oper) (n : Nat) : Bool := decide (n ≤ ops.size) && (List.range ops.size).all fun m => decide (m < n) || (List.range n).all fun j => waitsT ops ops.size m j
theorem headOk_le {ops : Array Oper} {n : Nat} (h : headOk ops n = true) : n ≤ ops.size := by
  unfold headOk at h
  rw [Bool.and_eq_true] at h
  simpa using h.1
theorem headOk_spec {ops : Array Oper} {n : Nat} (h : headOk ops n = true) (m : Nat) (hm : m < ops.size) (hn : n ≤ m) (j : Nat) (hj : j < n) : waitsT ops ops.size m j = true := by
  unfold headOk at h
  rw [Bool.and_eq_true] at h
  have h1 := List.all_eq_true.1 h.2 m (List.mem_range.2 hm)
  rw [Bool.or_eq_true] at h1
  rcases h1 with h1 | h1
  · have := of_decide_eq_true h1; omega
  · exact List.all_eq_true.1 h1 j (List.mem_range.2 hj)

section
variable {F : Fence} {n0 : Nat} {P : Program} {ops : Array Oper} {Q : Exit → Act → World → Prop}
/-- What an operation of the head owes, inside a fence. -/
def StepIn (F : Fence) (n0 : Nat) (P : Program) (ops : Array Oper) (n : Nat) (Q : Exit → Act → World → Prop) (Φ : Facts) (a0 : Act) (w0 : World) (i : Nat) (o : Oper) : Prop :=
  ∀ a w, Below w0.heap.size w0 w → a.defers = a0.defers → a.tmps.size = a0.tmps.size →
    (∀ t, noDstTo ops n t = true → a.tmps.getD t undef = a0.tmps.getD t undef) →
    (∀ j oj d, waitsFor o j = true → ops[j]? = some oj → oj.dst = some d → Φ j (a.tmps.getD d undef) w) →
    Region.wanted o (yielded ops a.tmps) = true ∧ o.wpIn F n0 P a w (Stepped Φ i o a w) Q

/-- What is listed when the head is done. -/
def headDone (n m : Nat) : Array Bool := ((List.range m).map fun j => decide (j < n)).toArray
theorem headDone_get (n m j : Nat) (h : j < m) : (headDone n m).getD j false = decide (j < n) := by
  simp [headDone, Array.getD_eq_getD_getElem?, h]

theorem ready_mem {listed : Array Bool} {i : Nat} (h : i ∈ Region.ready .any ops listed) :
    ∃ o, ops[i]? = some o ∧ i < ops.size ∧ listed.getD i true = false ∧ ∀ e ∈ o.after, Region.binds .any e = true → listed.getD e.on false = true := by
  unfold Region.ready at h
  obtain ⟨hir, hib⟩ := List.mem_filter.1 h
  have hi' : i < ops.size := List.mem_range.1 hir
  obtain ⟨o, ho⟩ : ∃ o, ops[i]? = some o := ⟨ops[i], Array.getElem?_eq_getElem hi'⟩
  simp only [ho, Option.map_some, Option.getD_some, Bool.and_eq_true, Bool.not_eq_true', Array.all_eq_true_iff_forall_mem, Bool.or_eq_true] at hib
  obtain ⟨hil, hie⟩ := hib
  exact ⟨o, ho, hi', hil, fun e he hb => (hie e he).resolve_left (by rw [hb]; decide)⟩
theorem ready_least {n : Nat} (hok : regionB ops n = true) {listed : Array Bool} (hs : listed.size = ops.size) {k : Nat} (hk : k < ops.size) (hun : listed.getD k false = false) : Region.ready .any ops listed ≠ [] := by
  induction k using Nat.strongRecOn with
  | _ k ih =>
    by_cases hall : ∀ j, j < k → listed.getD j false = true
    · have hmem : k ∈ Region.ready .any ops listed := by
        unfold Region.ready
        obtain ⟨o, ho⟩ : ∃ o, ops[k]? = some o := ⟨ops[k], Array.getElem?_eq_getElem hk⟩
        refine List.mem_filter.2 ⟨List.mem_range.2 hk, ?_⟩
        simp only [ho, Option.map_some, Option.getD_some, Bool.and_eq_true, Bool.not_eq_true', Array.all_eq_true_iff_forall_mem, Bool.or_eq_true]
        refine ⟨by rw [getD_true_false (by omega)]; exact hun, fun e he => (by cases hbe : Region.binds .any e with
          | false => exact Or.inl rfl
          | true => exact Or.inr (hall _ ((regionB_spec hok k o ho).1 e he hbe)))⟩
      intro e
      rw [e] at hmem
      cases hmem
    · have : ∃ j, j < k ∧ listed.getD j false ≠ true := Classical.byContradiction fun h => hall fun j hj => Classical.byContradiction fun h' => h ⟨j, hj, h'⟩
      obtain ⟨j, hj, hne⟩ := this
      exact ih j hj (by omega) (by simpa using hne)
theorem missing_set {listed : Array Bool} {i : Nat} (hls : i < listed.size) (hi' : i < ops.size) (hil : listed.getD i true = false) :
    ((List.range ops.size).filter fun j => !(listed.setIfInBounds i true).getD j true).length < ((List.range ops.size).filter fun j => !listed.getD j true).length := by
  have hsub : ((List.range ops.size).filter fun j => !(listed.setIfInBounds i true).getD j true) = ((List.range ops.size).filter fun j => !listed.getD j true).filter (fun j => j != i) := by
    rw [List.filter_filter]
    apply List.filter_congr
    intro j hj
    by_cases e : j = i
    · subst e; simp [Array.getD_eq_getD_getElem?, hls]
    · simp [Array.getD_eq_getD_getElem?, Array.getElem?_setIfInBounds_ne (fun h => e h.symm), e]
  rw [hsub]
  exact List.length_filter_lt_length_iff_exists.2 ⟨i, List.mem_filter.2 ⟨List.mem_range.2 hi', by simpa using hil⟩, by simp⟩
theorem missing_tail (n : Nat) : ∀ m, ((List.range m).filter fun j => !decide (j < n)).length = m - n
  | 0 => by simp
  | m + 1 => by
    rw [List.range_succ, List.filter_append, List.length_append, missing_tail n m]
    by_cases h : m < n
    · simp [h]; omega
    · simp [h]; omega

/-- The rule. -/
theorem wpIn_region_head {id : Nat} {a0 : Act} {w0 : World} (hm : P.follows .mixedOrders = true) (n : Nat) (Φ : Facts) (hst : ∀ i v w w', Φ i v w → Below w.heap.size w w' → Φ i v w')
    (hok : regionB ops a0.tmps.size = true) (hhd : headOk ops n = true)
    (step : ∀ i o, ops[i]? = some o → i < n → StepIn F n0 P ops n Q Φ a0 w0 i o)
    (tail : ∀ m a w, Below w0.heap.size w0 w → a.defers = a0.defers → a.tmps.size = a0.tmps.size → (∀ t, noDstTo ops n t = true → a.tmps.getD t undef = a0.tmps.getD t undef) →
      (∀ i o d, ops[i]? = some o → i < n → o.dst = some d → Φ i (a.tmps.getD d undef) w) → wpAnyIn F n0 P .any ops Q (m + (ops.size - n)) (headDone n ops.size) a w) : (Code.region id ops true).wpIn F n0 P Q a0 w0 := by
  have hle := headOk_le hhd
  refine wpIn_region_any hm ?_
  have main : ∀ (fuel : Nat) (l : Array Bool) (a : Act) (w : World), l.size = ops.size → ListedOk ops l → (∀ j, n ≤ j → l.getD j false = false) → HeadInvT ops n Φ a0 w0 l a w →
      ((List.range ops.size).filter fun i => !l.getD i true).length ≤ fuel → wpAnyIn F n0 P .any ops Q fuel l a w := by
    intro fuel
    induction fuel with
    | zero =>
      intro l a w hls hcl hun hJ hf
      have hnil := List.length_eq_zero_iff.1 (Nat.le_zero.1 hf)
      rw [List.filter_eq_nil_iff] at hnil
      have hall : ∀ j, j < ops.size → l.getD j false = true := by
        intro j hj
        have := hnil j (List.mem_range.2 hj)
        rw [← getD_true_false (by omega)]
        simpa using this
      have hn : n = ops.size := by
        by_cases e : n < ops.size
        · have := hall n e; rw [hun n (Nat.le_refl _)] at this; cases this
        · omega
      have heq : l = headDone n ops.size := by
        apply Array.ext
        · simp [headDone, hls]
        · intro i h1 h2
          have h3 := hall i (by omega)
          have h4 := headDone_get n ops.size i (by omega)
          simp only [Array.getD, h1, h2, dif_pos] at h3 h4
          show l[i] = (headDone n ops.size)[i]
          have h5 : l[i] = true := h3
          have h6 : (headDone n ops.size)[i] = decide (i < n) := h4
          rw [h5, h6, decide_eq_true (by omega)]
      have H := tail 0 a w hJ.below hJ.defers hJ.tmps hJ.outer (fun j oj d hoj hj hd => hJ.facts j oj d hoj hj (hall j (by omega)) hd)
      rw [heq]
      rwa [show 0 + (ops.size - n) = 0 from by omega] at H
    | succ fuel ih =>
      intro l a w hls hcl hun hJ hf
      by_cases hall : ∀ j, j < n → l.getD j false = true
      · have heq : l = headDone n ops.size := by
          apply Array.ext
          · simp [headDone, hls]
          · intro i h1 h2
            have h4 := headDone_get n ops.size i (by omega)
            have h3 : l.getD i false = decide (i < n) := by
              by_cases e : i < n
              · rw [hall i e, decide_eq_true e]
              · rw [hun i (by omega), decide_eq_false e]
            simp only [Array.getD, h1, h2, dif_pos] at h3 h4
            exact h3.trans h4.symm
        have H := fun m => tail m a w hJ.below hJ.defers hJ.tmps hJ.outer (fun j oj d hoj hj hd => hJ.facts j oj d hoj hj (hall j hj) hd)
        have hmiss : ((List.range ops.size).filter fun i => !l.getD i true).length = ops.size - n := by
          rw [← missing_tail n ops.size]
          congr 1
          apply List.filter_congr
          intro j hj
          have hj' := List.mem_range.1 hj
          rw [getD_true_false (by omega), heq, headDone_get n ops.size j hj']
        rw [heq]
        have := H (fuel + 1 - (ops.size - n))
        rwa [show fuel + 1 - (ops.size - n) + (ops.size - n) = fuel + 1 from by omega] at this
      · have hex : ∃ j, j < n ∧ l.getD j false ≠ true := Classical.byContradiction fun h => hall fun j hj => Classical.byContradiction fun h' => h ⟨j, hj, h'⟩
        obtain ⟨j0, hj0, hne0⟩ := hex
        refine ⟨fun hr => absurd hr (ready_least hok hls (by omega : j0 < ops.size) (by simpa using hne0)), fun i hi => ?_⟩
        obtain ⟨o, ho, hi', hil, hie⟩ := ready_mem hi
        have hil' : l.getD i false = false := by rw [← getD_true_false (by omega)]; exact hil
        have hin : i < n := by
          by_cases e : i < n
          · exact e
          · have := waits_listed hcl j0 ops.size i o ho hie (headOk_spec hhd i hi' (by omega) j0 hj0)
            exact absurd this hne0
        obtain ⟨hw, hwp⟩ := step i o ho hin a w hJ.below hJ.defers hJ.tmps hJ.outer (fun j oj d hwt hoj hd => by
          obtain ⟨e, he, hej, hb⟩ := waitsFor_spec hwt
          have hji : j < i := by rw [← hej]; exact (regionB_spec hok i o ho).1 e he hb
          exact hJ.facts j oj d hoj (by omega) (hej ▸ hie e he hb) hd)
        unfold wpOpIn
        simp only [ho, hw, if_true]
        refine Oper.wpIn_mono ?_ hwp
        rintro a' w' ⟨v, rfl, hb, hv⟩
        have := missing_set (ops := ops) (by omega : i < l.size) hi' hil
        exact ih _ _ _ (by simp [hls]) (hcl.set hls ho hie) (fun j hj => by rw [getD_set_ne (by omega)]; exact hun j hj) (hJ.putB hst hok hin ho hb hv) (by omega)
  refine main ops.size _ a0 _ (by simp) ?_ ?_ ⟨(Below.refl _ w0).drew, rfl, rfl, fun _ _ => rfl, ?_⟩ ?_
  · intro i o ho hl
    have hi := (Array.getElem?_eq_some_iff.1 ho).1
    simp [Array.getD_eq_getD_getElem?, hi] at hl
  · intro j _
    by_cases hj : j < ops.size <;> simp [Array.getD_eq_getD_getElem?, hj]
  · intro i o d ho _ hl _
    have hi := (Array.getElem?_eq_some_iff.1 ho).1
    simp [Array.getD_eq_getD_getElem?, hi] at hl
  · exact Nat.le_trans (List.length_filter_le _ _) (by simp)

/-- The steps of the head, one after the other. -/
def StepsIn' (F : Fence) (n0 : Nat) (P : Program) (ops : Array Oper) (n : Nat) (Q : Exit → Act → World → Prop) (Φ : Facts) (a0 : Act) (w0 : World) : Nat → List Oper → Prop
  | _, [] => True
  | i, o :: r => StepIn F n0 P ops n Q Φ a0 w0 i o ∧ StepsIn' F n0 P ops n Q Φ a0 w0 (i + 1) r
theorem stepsIn_get {n : Nat} {Φ : Facts} {a0 : Act} {w0 : World} : ∀ {l : List Oper} {k : Nat}, StepsIn' F n0 P ops n Q Φ a0 w0 k l → ∀ i o, l[i]? = some o → StepIn F n0 P ops n Q Φ a0 w0 (k + i) o
  | [], _, _, i, o, h => by simp at h
  | x :: r, k, hs, i, o, h => by
    cases i with
    | zero => simp at h; subst h; exact hs.1
    | succ i =>
      have := stepsIn_get hs.2 i o (by simpa using h)
      rwa [show k + 1 + i = k + (i + 1) by omega] at this
theorem steps_in {n : Nat} {Φ : Facts} {a0 : Act} {w0 : World} (H : StepsIn' F n0 P ops n Q Φ a0 w0 0 (ops.toList.take n)) : ∀ i o, ops[i]? = some o → i < n → StepIn F n0 P ops n Q Φ a0 w0 i o := by
  intro i o ho hi
  have := stepsIn_get H i o (by rw [List.getElem?_take_of_lt hi]; simpa using ho)
  rwa [Nat.zero_add] at this

/-- One operation may come next. -/
theorem any_op {fuel i : Nat} {o : Oper} {listed : Array Bool} {a : Act} {w : World} (ho : ops[i]? = some o)
    (h : wpListIn F n0 P ops (Exit.then (wpAnyIn F n0 P .any ops Q fuel (listed.setIfInBounds i true)) Q) [o] a w) : wpOpIn F n0 P ops Q i (wpAnyIn F n0 P .any ops Q fuel (listed.setIfInBounds i true)) a w := by
  unfold wpOpIn
  simp only [ho]
  unfold wpListIn at h
  split
  · rename_i hw
    rw [if_pos hw] at h
    unfold Oper.wpIn at h ⊢
    refine ⟨h.1, ?_⟩
    have h := h.2
    have hout : LetsOut (Exit.then (wpAnyIn F n0 P .any ops Q fuel (listed.setIfInBounds i true)) Q) → LetsOut Q := fun h => h
    generalize (o.semAt F.round a.eval).run P w = r at *
    cases r with
    | ok x w' =>
      cases x <;> simp only [Oper.uponIn] at h ⊢ <;>
        first
          | exact h
          | exact ⟨h.1, CallsIn.mono h.2 (fun e w'' he => by cases e <;> first | exact he | exact hout he)⟩
          | exact ⟨h.1, RowsIn.mono h.2 (fun _ _ he => he)⟩
          | exact ⟨h.1, RoundIn.mono h.2 (fun e w'' he => by cases e <;> first | exact he | exact hout he)⟩
    | halt x w' => cases x <;> simp only [Oper.uponIn] at h ⊢ <;> exact h
  · rename_i hw
    rw [if_neg hw] at h
    exact ⟨h.1, h.2⟩
theorem any_one {fuel i : Nat} {o : Oper} {listed : Array Bool} {a : Act} {w : World} (hr : Region.ready .any ops listed = [i]) (ho : ops[i]? = some o)
    (h : wpListIn F n0 P ops (Exit.then (wpAnyIn F n0 P .any ops Q fuel (listed.setIfInBounds i true)) Q) [o] a w) : wpAnyIn F n0 P .any ops Q (fuel + 1) listed a w :=
  ⟨fun e => (by rw [hr] at e; cases e), fun j hj => by
    rw [hr] at hj
    obtain rfl : j = i := by simpa using hj
    exact any_op ho h⟩
theorem any_two {fuel i j : Nat} {o p : Oper} {listed : Array Bool} {a : Act} {w : World} (hr : Region.ready .any ops listed = [i, j]) (ho : ops[i]? = some o) (hp : ops[j]? = some p)
    (h : wpListIn F n0 P ops (Exit.then (wpAnyIn F n0 P .any ops Q fuel (listed.setIfInBounds i true)) Q) [o] a w)
    (k : wpListIn F n0 P ops (Exit.then (wpAnyIn F n0 P .any ops Q fuel (listed.setIfInBounds j true)) Q) [p] a w) : wpAnyIn F n0 P .any ops Q (fuel + 1) listed a w :=
  ⟨fun e => (by rw [hr] at e; cases e), fun x hx => by
    rw [hr] at hx
    rcases List.mem_cons.1 hx with rfl | hx
    · exact any_op ho h
    · obtain rfl : x = j := by simpa using hx
      exact any_op hp k⟩
end
end Go.Proofs.YtnobmffgchlijaaGreatDoor
