/- A region that draws its order: a head whose operations only add to memory, in any order; then a tail in its own order. -/
import Derived.Test.YtnobmffgchlijaaGreatDoorRg
import Derived.RangeFuncBox
namespace Go.Proofs.YtnobmffgchlijaaGreatDoor
open Go.RowKit

/-- Operation i waits for operation j, at some remove. -/
def waitsT (ops : Array Oper) : Nat → Nat → Nat → Bool
  | 0, _, _ => false
  | f + 1, i, j => match ops[i]? with
    | some o => o.after.any fun e => Region.binds .any e && (e.on == j || waitsT ops f e.on j)
    | none => false
/-- From n on, each operation waits for all before it. -/
def tailOk (ops : Array Oper) (n : Nat) : Bool := decide (n < ops.size) && (List.range ops.size).all fun m => decide (m < n) || (List.range m).all fun j => waitsT ops ops.size m j
theorem tailOk_lt {ops : Array Oper} {n : Nat} (h : tailOk ops n = true) : n < ops.size := by
  unfold tailOk at h
  rw [Bool.and_eq_true] at h
  simpa using h.1
theorem tailOk_spec {ops : Array Oper} {n : Nat} (h : tailOk ops n = true) (m : Nat) (hm : m < ops.size) (hn : n ≤ m) (j : Nat) (hj : j < m) : waitsT ops ops.size m j = true := by
  unfold tailOk at h
  rw [Bool.and_eq_true] at h
  have h1 := List.all_eq_true.1 h.2 m (List.mem_range.2 hm)
  rw [Bool.or_eq_true] at h1
  rcases h1 with h1 | h1
  · have := of_decide_eq_true h1; omega
  · exact List.all_eq_true.1 h1 j (List.mem_range.2 hj)

/-- What is listed is closed under waiting. -/
def ListedOk (ops : Array Oper) (l : Array Bool) : Prop := ∀ i o, ops[i]? = some o → l.getD i false = true → ∀ e ∈ o.after, Region.binds .any e = true → l.getD e.on false = true
theorem waits_listed {ops : Array Oper} {l : Array Bool} (hl : ListedOk ops l) (j : Nat) : ∀ (f i : Nat) (o : Oper), ops[i]? = some o → (∀ e ∈ o.after, Region.binds .any e = true → l.getD e.on false = true) → waitsT ops f i j = true → l.getD j false = true := by
  intro f
  induction f with
  | zero => intro i o _ _ h; simp [waitsT] at h
  | succ f ih =>
    intro i o ho he h
    simp only [waitsT, ho] at h
    obtain ⟨k, hk, h⟩ := Array.any_eq_true.1 h
    rw [Bool.and_eq_true, Bool.or_eq_true] at h
    have h1 := he _ (Array.getElem_mem hk) h.1
    rcases h.2 with h2 | h2
    · have e : o.after[k].on = j := by simpa using h2
      rw [← e]; exact h1
    · cases hq : ops[o.after[k].on]? with
      | none => cases f <;> simp [waitsT, hq] at h2
      | some o' => exact ih _ o' hq (hl _ o' hq h1) h2
theorem ListedOk.set {ops : Array Oper} {l : Array Bool} (hl : ListedOk ops l) (hs : l.size = ops.size) {i : Nat} {o : Oper} (ho : ops[i]? = some o) (hie : ∀ e ∈ o.after, Region.binds .any e = true → l.getD e.on false = true) : ListedOk ops (l.setIfInBounds i true) := by
  have up : ∀ j, l.getD j false = true → (l.setIfInBounds i true).getD j false = true := by
    intro j hj
    by_cases e : j = i
    · subst e
      have : j < l.size := by rw [hs]; exact (Array.getElem?_eq_some_iff.1 ho).1
      simp [Array.getD_eq_getD_getElem?, this]
    · simpa [Array.getD_eq_getD_getElem?, Array.getElem?_setIfInBounds_ne (fun h => e h.symm)] using hj
  intro j oj hoj hlj e he hb
  by_cases hji : j = i
  · subst hji
    obtain rfl : oj = o := by rw [ho] at hoj; exact (Option.some.inj hoj).symm
    exact up _ (hie e he hb)
  · have : l.getD j false = true := by simpa [Array.getD_eq_getD_getElem?, Array.getElem?_setIfInBounds_ne (fun h => hji h.symm)] using hlj
    exact up _ (hl j oj hoj this e he hb)

/-- No operation before n writes slot t. -/
def noDstTo (ops : Array Oper) (n : Nat) (t : Tmp) : Bool := (ops.toList.take n).all fun o => o.dst != some t
theorem noDstTo_spec {ops : Array Oper} {n : Nat} {t : Tmp} (h : noDstTo ops n t = true) (i : Nat) (hi : i < n) (o : Oper) (ho : ops[i]? = some o) : o.dst ≠ some t := by
  unfold noDstTo at h
  have := List.all_eq_true.1 h o (by
    refine List.mem_of_getElem? (i := i) ?_
    rw [List.getElem?_take_of_lt hi]
    simpa using ho)
  simpa using this

structure HeadInvT (ops : Array Oper) (n : Nat) (Φ : Facts) (a0 : Act) (w0 : World) (listed : Array Bool) (a : Act) (w : World) : Prop where
  below : Below w0.heap.size w0 w
  defers : a.defers = a0.defers
  tmps : a.tmps.size = a0.tmps.size
  outer : ∀ t, noDstTo ops n t = true → a.tmps.getD t undef = a0.tmps.getD t undef
  facts : ∀ i o d, ops[i]? = some o → i < n → listed.getD i false = true → o.dst = some d → Φ i (a.tmps.getD d undef) w

/-- What an operation of the head owes. -/
def StepTo (P : Program) (ops : Array Oper) (n : Nat) (Q : Exit → Act → World → Prop) (Φ : Facts) (a0 : Act) (w0 : World) (i : Nat) (o : Oper) : Prop :=
  ∀ a w, Below w0.heap.size w0 w → a.defers = a0.defers → a.tmps.size = a0.tmps.size →
    (∀ t, noDstTo ops n t = true → a.tmps.getD t undef = a0.tmps.getD t undef) →
    (∀ j oj d, waitsFor o j = true → ops[j]? = some oj → oj.dst = some d → Φ j (a.tmps.getD d undef) w) →
    Region.wanted o (yielded ops a.tmps) = true ∧ o.wp P a w (Stepped Φ i o a w) Q

theorem HeadInvT.put {ops : Array Oper} {n : Nat} {Φ : Facts} {a0 : Act} {w0 : World} (hst : ∀ i v w w', Φ i v w → Below w.heap.size w w' → Φ i v w') (hok : regionOk ops a0.tmps.size = true)
    {listed : Array Bool} {a : Act} {w : World} (hJ : HeadInvT ops n Φ a0 w0 listed a w) {i : Nat} {o : Oper} (hin : i < n) (ho : ops[i]? = some o) {v : Value} {w' : World} (hb : Below w.heap.size w w') (hv : ∀ d, o.dst = some d → Φ i v w') :
    HeadInvT ops n Φ a0 w0 (listed.setIfInBounds i true) (a.put o.dst v) w' := by
  refine ⟨hJ.below.trans (hb.mono hJ.below.size), ?_, ?_, ?_, ?_⟩
  · rw [← hJ.defers]; cases o.dst <;> rfl
  · rw [← hJ.tmps]; cases o.dst <;> simp [Act.put]
  · intro t ht
    rw [← hJ.outer t ht]
    cases hd : o.dst with
    | none => rfl
    | some d =>
      have hne : d ≠ t := fun e => noDstTo_spec ht i hin o ho (by rw [hd, e])
      simp [Act.put, Array.getD_eq_getD_getElem?, Array.getElem?_setIfInBounds_ne hne]
  · intro j oj d hoj hjn hlj hd
    by_cases hji : j = i
    · subst hji
      obtain rfl : oj = o := by rw [ho] at hoj; exact (Option.some.inj hoj).symm
      have hdn := ((regionOk_spec hok j oj ho).2 d hd).1
      rw [hd]
      have e : (a.put (some d) v).tmps.getD d undef = v := by
        have : d < a.tmps.size := by rw [hJ.tmps]; exact hdn
        simp [Act.put, Array.getD_eq_getD_getElem?, this]
      rw [e]
      exact hv d hd
    · have hlj' : listed.getD j false = true := by
        simpa [Array.getD_eq_getD_getElem?, Array.getElem?_setIfInBounds_ne (fun e => hji e.symm)] using hlj
      have hf0 := hst _ _ _ _ (hJ.facts j oj d hoj hjn hlj' hd) hb
      cases hd' : o.dst with
      | none => exact hf0
      | some d' =>
        have hne : d' ≠ d := by
          intro e
          subst e
          rcases Nat.lt_or_gt_of_ne hji with h | h
          · exact ((regionOk_spec hok i o ho).2 d' hd').2 j oj h hoj hd
          · exact ((regionOk_spec hok j oj hoj).2 d' hd).2 i o h ho hd'
        simpa [Act.put, Array.getD_eq_getD_getElem?, Array.getElem?_setIfInBounds_ne hne] using hf0

theorem getD_set_ne {l : Array Bool} {i j : Nat} (h : j ≠ i) (b d : Bool) : (l.setIfInBounds i b).getD j d = l.getD j d := by
  simp [Array.getD_eq_getD_getElem?, Array.getElem?_setIfInBounds_ne (fun e => h e.symm)]
theorem getD_true_false {l : Array Bool} {i : Nat} (h : i < l.size) : l.getD i true = l.getD i false := by
  simp [Array.getD, h]

/-- The rule. -/
theorem wp_region_grow_tail {P : Program} {ops : Array Oper} {Q : Exit → Act → World → Prop} {id : Nat} {a0 : Act} {w0 : World} (hm : P.follows .mixedOrders = true) (n : Nat) (Φ : Facts) (hst : ∀ i v w w', Φ i v w → Below w.heap.size w w' → Φ i v w')
    (hok : regionOk ops a0.tmps.size = true) (htl : tailOk ops n = true)
    (step : ∀ i o, ops[i]? = some o → i < n → StepTo P ops n Q Φ a0 w0 i o)
    (tail : ∀ a w, Below w0.heap.size w0 w → a.defers = a0.defers → a.tmps.size = a0.tmps.size → (∀ t, noDstTo ops n t = true → a.tmps.getD t undef = a0.tmps.getD t undef) →
      (∀ i o d, ops[i]? = some o → i < n → o.dst = some d → Φ i (a.tmps.getD d undef) w) → wpList P ops Q (ops.toList.drop n) a w) : (Code.region id ops true).wp P Q a0 w0 := by
  have hlt := tailOk_lt htl
  have hcons : ∀ k o, ops[k]? = some o → ops.toList.drop k = o :: ops.toList.drop (k + 1) := by
    intro k o ho
    have hk := (Array.getElem?_eq_some_iff.1 ho).1
    rw [List.drop_eq_getElem_cons (by simpa using hk)]
    congr 1
    have := (Array.getElem?_eq_some_iff.1 ho).2
    simpa using this
  refine wp_region_any hm (wpAny_inv hok (fun l a w => l.size = ops.size ∧ ListedOk ops l ∧ (((∀ j, n ≤ j → l.getD j false = false) ∧ HeadInvT ops n Φ a0 w0 l a w) ∨
    ∃ k, n < k ∧ (∀ j, j < k → j < ops.size → l.getD j false = true) ∧ (∀ j, k ≤ j → l.getD j false = false) ∧ wpList P ops Q (ops.toList.drop k) a w)) (fun _ _ _ h => h.1) ?_ ?_ ops.size _ a0 _ ⟨by simp, ?_, Or.inl ⟨?_, ?_⟩⟩ ?_)
  · rintro l a w i o ⟨hls, hcl, hJ⟩ hil ho hie
    have hi' : i < ops.size := (Array.getElem?_eq_some_iff.1 ho).1
    have hil' : l.getD i false = false := by rw [← getD_true_false (by omega)]; exact hil
    have hcl' := hcl.set hls ho hie
    have hall : n ≤ i → ∀ j, j < i → l.getD j false = true := fun hni j hj => waits_listed hcl j ops.size i o ho hie (tailOk_spec htl i hi' hni j hj)
    rcases hJ with ⟨hun, hJ⟩ | ⟨k, hnk, hlk, huk, hwp⟩
    · by_cases hin : i < n
      · obtain ⟨hw, hwp⟩ := step i o ho hin a w hJ.below hJ.defers hJ.tmps hJ.outer (fun j oj d hwt hoj hd => by
          obtain ⟨e, he, hej, hb⟩ := waitsFor_spec hwt
          have hji : j < i := by rw [← hej]; exact (regionOk_spec hok i o ho).1 e he
          exact hJ.facts j oj d hoj (by omega) (hej ▸ hie e he hb) hd)
        unfold wpOp
        simp only [ho, hw, if_true]
        refine Or.inl (Oper.wp_mono ?_ hwp)
        rintro a' w' ⟨v, rfl, hb, hv⟩
        exact ⟨by simp [hls], hcl', Or.inl ⟨fun j hj => by rw [getD_set_ne (by omega)]; exact hun j hj, hJ.put hst hok hin ho hb hv⟩⟩
      · have hin' : i = n := by
          by_cases e : i = n
          · exact e
          · have h1 := hall (by omega) n (by omega)
            rw [hun n (Nat.le_refl _)] at h1; cases h1
        subst hin'
        have H := tail a w hJ.below hJ.defers hJ.tmps hJ.outer (fun j oj d hoj hj hd => hJ.facts j oj d hoj hj (hall (Nat.le_refl _) j hj) hd)
        rw [hcons i o ho] at H
        have H' : wpOp P ops Q i (wpList P ops Q (ops.toList.drop (i + 1))) a w := by
          unfold wpOp
          simp only [ho]
          exact H
        refine wpOp_mono ?_ H'
        intro a' w' hQ
        refine ⟨by simp [hls], hcl', Or.inr ⟨i + 1, by omega, fun j hj hjs => ?_, fun j hj => by rw [getD_set_ne (by omega)]; exact hun j (by omega), hQ⟩⟩
        by_cases e : j = i
        · subst e; simp [Array.getD_eq_getD_getElem?, hls, hi']
        · rw [getD_set_ne e]; exact hall (Nat.le_refl _) j (by omega)
    · have hik : i = k := by
        have h1 : k ≤ i := by
          by_cases e : k ≤ i
          · exact e
          · have := hlk i (by omega) hi'
            rw [hil'] at this; cases this
        by_cases e : i = k
        · exact e
        · have h2 := hall (by omega) k (by omega)
          rw [huk k (Nat.le_refl _)] at h2; cases h2
      subst hik
      rw [hcons i o ho] at hwp
      have H' : wpOp P ops Q i (wpList P ops Q (ops.toList.drop (i + 1))) a w := by
        unfold wpOp
        simp only [ho]
        exact hwp
      refine wpOp_mono ?_ H'
      intro a' w' hQ
      refine ⟨by simp [hls], hcl', Or.inr ⟨i + 1, by omega, fun j hj hjs => ?_, fun j hj => by rw [getD_set_ne (by omega)]; exact huk j (by omega), hQ⟩⟩
      by_cases e : j = i
      · subst e; simp [Array.getD_eq_getD_getElem?, hls, hi']
      · rw [getD_set_ne e]; exact hlk j (by omega) hjs
  · rintro a w ⟨_, _, ⟨hun, _⟩ | ⟨k, _, _, huk, hwp⟩⟩
    · have := hun n (Nat.le_refl _)
      simp [Array.getD_eq_getD_getElem?, hlt] at this
    · have hk : ops.size ≤ k := by
        by_cases e : ops.size ≤ k
        · exact e
        · have := huk k (Nat.le_refl _)
          simp [Array.getD_eq_getD_getElem?, show k < ops.size by omega] at this
      rw [List.drop_eq_nil_of_le (by simpa using hk)] at hwp
      exact hwp
  · intro i o ho hl
    have hi := (Array.getElem?_eq_some_iff.1 ho).1
    simp [Array.getD_eq_getD_getElem?, hi] at hl
  · intro j _
    by_cases hj : j < ops.size <;> simp [Array.getD_eq_getD_getElem?, hj]
  · refine ⟨(Below.refl _ w0).drew, rfl, rfl, fun _ _ => rfl, ?_⟩
    intro i o d ho _ hl _
    have hi := (Array.getElem?_eq_some_iff.1 ho).1
    simp [Array.getD_eq_getD_getElem?, hi] at hl
  · exact Nat.le_trans (List.length_filter_le _ _) (by simp)

/-- The steps of the head, one after the other. -/
def StepsTo (P : Program) (ops : Array Oper) (n : Nat) (Q : Exit → Act → World → Prop) (Φ : Facts) (a0 : Act) (w0 : World) : Nat → List Oper → Prop
  | _, [] => True
  | i, o :: r => StepTo P ops n Q Φ a0 w0 i o ∧ StepsTo P ops n Q Φ a0 w0 (i + 1) r
theorem stepsTo_get {P : Program} {ops : Array Oper} {n : Nat} {Q : Exit → Act → World → Prop} {Φ : Facts} {a0 : Act} {w0 : World} : ∀ {l : List Oper} {k : Nat}, StepsTo P ops n Q Φ a0 w0 k l → ∀ i o, l[i]? = some o → StepTo P ops n Q Φ a0 w0 (k + i) o
  | [], _, _, i, o, h => by simp at h
  | x :: r, k, hs, i, o, h => by
    cases i with
    | zero => simp at h; subst h; exact hs.1
    | succ i =>
      have := stepsTo_get hs.2 i o (by simpa using h)
      rwa [show k + 1 + i = k + (i + 1) by omega] at this
theorem steps_to {P : Program} {ops : Array Oper} {n : Nat} {Q : Exit → Act → World → Prop} {Φ : Facts} {a0 : Act} {w0 : World} (H : StepsTo P ops n Q Φ a0 w0 0 (ops.toList.take n)) : ∀ i o, ops[i]? = some o → i < n → StepTo P ops n Q Φ a0 w0 i o := by
  intro i o ho hi
  have := stepsTo_get H i o (by rw [List.getElem?_take_of_lt hi]; simpa using ho)
  rwa [Nat.zero_add] at this
theorem facts_to {ops : Array Oper} {n : Nat} {Φ : Facts} {a : Act} {w : World} (hp : ∀ i o d, ops[i]? = some o → i < n → o.dst = some d → Φ i (a.tmps.getD d undef) w) (j d : Nat) (hj : j < n) (h : dstAt ops j d = true) : Φ j (a.tmps.getD d undef) w := by
  obtain ⟨oj, h1, h2⟩ := dstAt_spec h
  exact hp j oj d h1 hj h2

/-- What a slot of the head stands for: a value, or a slice over a new row. -/
inductive Dq where
  | val (v : Value) | row (t : TypeId) (cs : Array Value) (n : Nat)
def Dq.holds (v : Value) (w : World) : Dq → Prop
  | .val u => v = u
  | .row t cs n => ∃ g, v = .slice (some ⟨g, 0, none⟩) n n ∧ w.heap[g]? = some (.cells cs t (0, 0))
theorem Dq.grow {d : Dq} {v : Value} {w w' : World} (h : d.holds v w) (hb : Below w.heap.size w w') : d.holds v w' := by
  cases d with
  | val => exact h
  | row t cs n =>
    obtain ⟨g, hv, hg⟩ := h
    exact ⟨g, hv, (hb.block g (Array.getElem?_eq_some_iff.1 hg).1).trans hg⟩
def FQ (ds : List Dq) : Facts := fun i v w => match ds[i]? with
  | some d => d.holds v w
  | none => True
theorem FQ_grow (ds : List Dq) (i : Nat) (v : Value) (w w' : World) (h : FQ ds i v w) (hb : Below w.heap.size w w') : FQ ds i v w' := by
  unfold FQ at *
  cases hd : ds[i]? with
  | none => trivial
  | some d => rw [hd] at h; exact Dq.grow h hb
theorem FQ_at {ds : List Dq} {i : Nat} {v : Value} {w : World} (d : Dq) (hd : ds[i]? = some d) (h : FQ ds i v w) : d.holds v w := by
  unfold FQ at h
  rw [hd] at h
  exact h
theorem FQ_mk {ds : List Dq} {i : Nat} {v : Value} {w : World} (d : Dq) (hd : ds[i]? = some d) (h : d.holds v w) : FQ ds i v w := by
  unfold FQ
  rw [hd]
  exact h
theorem qval_at {ops : Array Oper} {ds : List Dq} {o : Oper} {a : Act} {w : World} (hp : HP ops (FQ ds) o a w) (j d : Nat) {u : Value} (h : fromOp ops o j d = true) (hd : ds[j]? = some (.val u)) : a.tmps.getD d undef = u := FQ_at _ hd (facts_at hp j d h)
theorem qslot_of {a : Array Value} {i n : Nat} {v : Value} (hs : a.size = n) (hi : i < n) (h : a.getD i undef = v) : a[i]'(hs ▸ hi) = v := by
  subst hs
  simpa [Array.getD_eq_getD_getElem?, hi] using h
/-- The slots, one by one. -/
theorem slots_all (a : Array Value) (n : Nat) (h : a.size = n) : a = ((List.range n).map (fun i => a.getD i undef)).toArray := by
  apply Array.ext
  · simp [h]
  · intro i h1 h2
    simp [Array.getD_eq_getD_getElem?, h1]
end Go.Proofs.YtnobmffgchlijaaGreatDoor
