/- Texts that belong together: The rule of phases (XGa) with a tail in its own order. Package store: how the parts of a store grow. Package store: insert. Package store: New, made, content, contains, Len. A region that draws its order and only adds to memory, where guards may strike operations out. -/
import Derived.Test.YtcoieohbmkjpoaaGreatDoorB1b
import Derived.Test.YtcoieohbmkjpoaaGreatDoorB1c
import Derived.Test.YtcoieohbmkjpoaaGreatDoorB1a
import Derived.LaidEqlPtr
namespace Go.Proofs.YtcoieohbmkjpoaaGreatDoor
open Go.RowKit

structure PhInvT (ops : Array Oper) (n : Nat) (ms : List Nat) (W : Nat → World → Prop) (Φ : Facts) (a0 : Act) (listed : Array Bool) (a : Act) (w : World) : Prop where
  size : listed.size = ops.size
  closed : ListedOk ops listed
  phase : ∃ p, p ≤ ms.length ∧ (∀ q m, ms[q]? = some m → (listed.getD m false = true ↔ q < p)) ∧ W p w
  defers : a.defers = a0.defers
  tmps : a.tmps.size = a0.tmps.size
  outer : ∀ t, noDstTo ops n t = true → a.tmps.getD t undef = a0.tmps.getD t undef
  facts : ∀ i o d, ops[i]? = some o → i < n → listed.getD i false = true → o.dst = some d → Φ i (a.tmps.getD d undef) w
/-- What operation i owes: in the phase that its waiting and being waited for allow. -/
def StepQ (P : Program) (ops : Array Oper) (n : Nat) (ms : List Nat) (W : Nat → World → Prop) (Q : Exit → Act → World → Prop) (Φ : Facts) (a0 : Act) (i : Nat) (o : Oper) : Prop :=
  ∀ p a w, W p w → (∀ q m, ms[q]? = some m → (m = i ∨ waitsT ops ops.size m i = true) → p ≤ q) → (∀ q m, ms[q]? = some m → waitsT ops ops.size i m = true → q < p) → a.defers = a0.defers → a.tmps.size = a0.tmps.size →
    (∀ t, noDstTo ops n t = true → a.tmps.getD t undef = a0.tmps.getD t undef) →
    (∀ j oj d, waitsFor o j = true → ops[j]? = some oj → oj.dst = some d → Φ j (a.tmps.getD d undef) w) →
    Region.wanted o (yielded ops a.tmps) = true ∧ o.wp P a w (SteppedP ops ms W Φ p i o a w) Q
theorem PhInvT.put {ops : Array Oper} {n : Nat} {ms : List Nat} {W : Nat → World → Prop} {Φ : Facts} {a0 : Act} (hok : regionOk ops a0.tmps.size = true) (hph : phaseOk ops ms = true)
    {listed : Array Bool} {a : Act} {w : World} (hJ : PhInvT ops n ms W Φ a0 listed a w) {i p : Nat} {o : Oper} (hin : i < n) (ho : ops[i]? = some o) (hil : listed.getD i false = false) (hie : ∀ e ∈ o.after, Region.binds .any e = true → listed.getD e.on false = true)
    (hp : p ≤ ms.length) (hpl : ∀ q m, ms[q]? = some m → (listed.getD m false = true ↔ q < p)) {v : Value} {w' : World} (hW : (if i ∈ ms then W (p + 1) w' else W p w')) (hv : ∀ d, o.dst = some d → Φ i v w')
    (hk : ∀ j u, j ≠ i → waitsT ops ops.size j i = false → Φ j u w → Φ j u w') :
    PhInvT ops n ms W Φ a0 (listed.setIfInBounds i true) (a.put o.dst v) w' := by
  have hi := (Array.getElem?_eq_some_iff.1 ho).1
  have hls := hJ.size
  have hcl := hJ.closed
  have hset : ∀ j, (listed.setIfInBounds i true).getD j false = true ↔ (j = i ∨ listed.getD j false = true) := by
    intro j
    by_cases e : j = i
    · subst e; simp [Array.getD_eq_getD_getElem?, hls, hi]
    · rw [getD_set_ne e]; simp [e]
  refine ⟨by simp [hls], hcl.set hls ho hie, ?_, ?_, ?_, ?_, ?_⟩
  · by_cases him : i ∈ ms
    · rw [if_pos him] at hW
      obtain ⟨q, hq⟩ := List.getElem?_of_mem him
      have hql : q < ms.length := (List.getElem?_eq_some_iff.1 hq).1
      have h1 : ¬ q < p := fun h => by rw [(hpl q i hq).2 h] at hil; cases hil
      have h2 : p = q := by
        apply Decidable.byContradiction
        intro hne
        have hpq : p < q := by omega
        obtain ⟨m', hm'⟩ : ∃ m', ms[p]? = some m' := ⟨_, List.getElem?_eq_getElem (by omega)⟩
        have h3 := (phaseOk_spec hph hq hm' hpq).2
        have h4 := waits_listed hcl m' ops.size i o ho hie h3
        have := (hpl p m' hm').1 h4
        omega
      subst h2
      refine ⟨p + 1, by omega, fun q' m' hq' => ?_, hW⟩
      rw [hset, hpl q' m' hq']
      constructor
      · rintro (rfl | h)
        · rcases Nat.lt_trichotomy q' p with h | h | h
          · omega
          · omega
          · have := (phaseOk_spec hph hq' hq h).1; omega
        · omega
      · intro h
        rcases Nat.lt_or_ge q' p with h5 | h5
        · exact Or.inr h5
        · have : q' = p := by omega
          subst this
          rw [hq] at hq'
          exact Or.inl (Option.some.inj hq').symm
    · rw [if_neg him] at hW
      refine ⟨p, hp, fun q' m' hq' => ?_, hW⟩
      rw [hset, ← hpl q' m' hq']
      constructor
      · rintro (rfl | h)
        · exact absurd (List.mem_of_getElem? hq') him
        · exact h
      · exact Or.inr
  · rw [← hJ.defers]; cases o.dst <;> rfl
  · rw [← hJ.tmps]; cases o.dst <;> simp [Act.put]
  · intro t ht
    rw [← hJ.outer t ht]
    cases hd : o.dst with
    | none => rfl
    | some d =>
      have hne : d ≠ t := fun e => noDstTo_spec ht i hin o ho (by rw [hd, e])
      simp [Act.put, Array.getD_eq_getD_getElem?, Array.getElem?_setIfInBounds_ne hne]
  · intro j oj d hoj hjn hlj hd
    by_cases hji : j = i
    · subst hji
      obtain rfl : oj = o := by rw [ho] at hoj; exact (Option.some.inj hoj).symm
      have hdn := ((regionOk_spec hok j oj ho).2 d hd).1
      rw [hd]
      have e : (a.put (some d) v).tmps.getD d undef = v := by
        have : d < a.tmps.size := by rw [hJ.tmps]; exact hdn
        simp [Act.put, Array.getD_eq_getD_getElem?, this]
      rw [e]
      exact hv d hd
    · have hlj' : listed.getD j false = true := by
        rcases (hset j).1 hlj with h | h
        · exact absurd h hji
        · exact h
      have hwt : waitsT ops ops.size j i = false := by
        cases hq : waitsT ops ops.size j i with
        | false => rfl
        | true =>
          have := waits_listed hcl i ops.size j oj hoj (hcl j oj hoj hlj') hq
          rw [this] at hil; cases hil
      have hf0 := hk j _ hji hwt (hJ.facts j oj d hoj hjn hlj' hd)
      cases hd' : o.dst with
      | none => exact hf0
      | some d' =>
        have hne : d' ≠ d := by
          intro e
          subst e
          rcases Nat.lt_or_gt_of_ne hji with h | h
          · exact ((regionOk_spec hok i o ho).2 d' hd').2 j oj h hoj hd
          · exact ((regionOk_spec hok j oj hoj).2 d' hd).2 i o h ho hd'
        simpa [Act.put, Array.getD_eq_getD_getElem?, Array.getElem?_setIfInBounds_ne hne] using hf0
/-- The rule, with a tail in its own order. -/
theorem wp_region_phase_tail {P : Program} {ops : Array Oper} {Q : Exit → Act → World → Prop} {id : Nat} {a0 : Act} {w0 : World} (hm : P.follows .mixedOrders = true) (n : Nat) (ms : List Nat) (W : Nat → World → Prop) (Φ : Facts)
    (hok : regionOk ops a0.tmps.size = true) (hph : phaseOk ops ms = true) (hms : ∀ m ∈ ms, m < n) (htl : tailOk ops n = true) (start : W 0 w0.drew)
    (step : ∀ i o, ops[i]? = some o → i < n → StepQ P ops n ms W Q Φ a0 i o)
    (tail : ∀ a w, W ms.length w → a.defers = a0.defers → a.tmps.size = a0.tmps.size → (∀ t, noDstTo ops n t = true → a.tmps.getD t undef = a0.tmps.getD t undef) →
      (∀ i o d, ops[i]? = some o → i < n → o.dst = some d → Φ i (a.tmps.getD d undef) w) → wpList P ops Q (ops.toList.drop n) a w) : (Code.region id ops true).wp P Q a0 w0 := by
  have hlt := tailOk_lt htl
  have hcons : ∀ k o, ops[k]? = some o → ops.toList.drop k = o :: ops.toList.drop (k + 1) := by
    intro k o ho
    have hk := (Array.getElem?_eq_some_iff.1 ho).1
    rw [List.drop_eq_getElem_cons (by simpa using hk)]
    congr 1
    have := (Array.getElem?_eq_some_iff.1 ho).2
    simpa using this
  refine wp_region_any hm (wpAny_inv hok (fun l a w => l.size = ops.size ∧ ListedOk ops l ∧ (((∀ j, n ≤ j → l.getD j false = false) ∧ PhInvT ops n ms W Φ a0 l a w) ∨
    ∃ k, n < k ∧ (∀ j, j < k → j < ops.size → l.getD j false = true) ∧ (∀ j, k ≤ j → l.getD j false = false) ∧ wpList P ops Q (ops.toList.drop k) a w)) (fun _ _ _ h => h.1) ?_ ?_ ops.size _ a0 _ ⟨by simp, ?_, Or.inl ⟨?_, ?_⟩⟩ ?_)
  · rintro l a w i o ⟨hls, hcl, hJ⟩ hil ho hie
    have hi' : i < ops.size := (Array.getElem?_eq_some_iff.1 ho).1
    have hil' : l.getD i false = false := by rw [← getD_true_false (by omega)]; exact hil
    have hcl' := hcl.set hls ho hie
    have hall : n ≤ i → ∀ j, j < i → l.getD j false = true := fun hni j hj => waits_listed hcl j ops.size i o ho hie (tailOk_spec htl i hi' hni j hj)
    rcases hJ with ⟨hun, hJ⟩ | ⟨k, hnk, hlk, huk, hwp⟩
    · obtain ⟨p, hp, hpl, hW⟩ := hJ.phase
      by_cases hin : i < n
      · obtain ⟨hw, hwp⟩ := step i o ho hin p a w hW (fun q m hq hor => by
          rcases Nat.lt_or_ge q p with h | h
          · exfalso
            have h1 := (hpl q m hq).2 h
            rcases hor with rfl | hwt
            · rw [h1] at hil'; cases hil'
            · have hmn := hms m (List.mem_of_getElem? hq)
              obtain ⟨om, hom⟩ : ∃ o, ops[m]? = some o := ⟨ops[m]'(by omega), Array.getElem?_eq_getElem _⟩
              have := waits_listed hJ.closed i ops.size m om hom (hJ.closed m om hom h1) hwt
              rw [this] at hil'; cases hil'
          · exact h) (fun q m hq hwt => (hpl q m hq).1 (waits_listed hJ.closed m ops.size i o ho hie hwt)) hJ.defers hJ.tmps hJ.outer
          (fun j oj d hwt hoj hd => by
            obtain ⟨e, he, hej, hb⟩ := waitsFor_spec hwt
            have hji : j < i := by rw [← hej]; exact (regionOk_spec hok i o ho).1 e he
            exact hJ.facts j oj d hoj (by omega) (hej ▸ hie e he hb) hd)
        unfold wpOp
        simp only [ho, hw, if_true]
        refine Or.inl (Oper.wp_mono ?_ hwp)
        rintro a' w' ⟨v, rfl, hW', hv, hk⟩
        exact ⟨by simp [hls], hcl', Or.inl ⟨fun j hj => by rw [getD_set_ne (by omega)]; exact hun j hj, hJ.put hok hph hin ho hil' hie hp hpl hW' hv hk⟩⟩
      · have hin' : i = n := by
          by_cases e : i = n
          · exact e
          · have h1 := hall (by omega) n (by omega)
            rw [hun n (Nat.le_refl _)] at h1; cases h1
        subst hin'
        have hpe : p = ms.length := by
          apply Decidable.byContradiction
          intro hne
          have hlt : p < ms.length := by omega
          have h1 := List.getElem?_eq_getElem hlt
          have h2 := hall (Nat.le_refl _) _ (hms _ (List.getElem_mem hlt))
          have := (hpl p _ h1).1 h2
          omega
        subst hpe
        have H := tail a w hW hJ.defers hJ.tmps hJ.outer (fun j oj d hoj hj hd => hJ.facts j oj d hoj hj (hall (Nat.le_refl _) j hj) hd)
        rw [hcons i o ho] at H
        have H' : wpOp P ops Q i (wpList P ops Q (ops.toList.drop (i + 1))) a w := by
          unfold wpOp
          simp only [ho]
          exact H
        refine wpOp_mono ?_ H'
        intro a' w' hQ
        refine ⟨by simp [hls], hcl', Or.inr ⟨i + 1, by omega, fun j hj hjs => ?_, fun j hj => by rw [getD_set_ne (by omega)]; exact hun j (by omega), hQ⟩⟩
        by_cases e : j = i
        · subst e; simp [Array.getD_eq_getD_getElem?, hls, hi']
        · rw [getD_set_ne e]; exact hall (Nat.le_refl _) j (by omega)
    · have hik : i = k := by
        have h1 : k ≤ i := by
          by_cases e : k ≤ i
          · exact e
          · have := hlk i (by omega) hi'
            rw [hil'] at this; cases this
        by_cases e : i = k
        · exact e
        · have h2 := hall (by omega) k (by omega)
          rw [huk k (Nat.le_refl _)] at h2; cases h2
      subst hik
      rw [hcons i o ho] at hwp
      have H' : wpOp P ops Q i (wpList P ops Q (ops.toList.drop (i + 1))) a w := by
        unfold wpOp
        simp only [ho]
        exact hwp
      refine wpOp_mono ?_ H'
      intro a' w' hQ
      refine ⟨by simp [hls], hcl', Or.inr ⟨i + 1, by omega, fun j hj hjs => ?_, fun j hj => by rw [getD_set_ne (by omega)]; exact huk j (by omega), hQ⟩⟩
      by_cases e : j = i
      · subst e; simp [Array.getD_eq_getD_getElem?, hls, hi']
      · rw [getD_set_ne e]; exact hlk j (by omega) hjs
  · rintro a w ⟨_, _, ⟨hun, _⟩ | ⟨k, _, _, huk, hwp⟩⟩
    · have := hun n (Nat.le_refl _)
      simp [Array.getD_eq_getD_getElem?, hlt] at this
    · have hk : ops.size ≤ k := by
        by_cases e : ops.size ≤ k
        · exact e
        · have := huk k (Nat.le_refl _)
          simp [Array.getD_eq_getD_getElem?, show k < ops.size by omega] at this
      rw [List.drop_eq_nil_of_le (by simpa using hk)] at hwp
      exact hwp
  · intro i o ho hl
    have hi := (Array.getElem?_eq_some_iff.1 ho).1
    simp [Array.getD_eq_getD_getElem?, hi] at hl
  · intro j _
    by_cases hj : j < ops.size <;> simp [Array.getD_eq_getD_getElem?, hj]
  · refine ⟨by simp, ?_, ⟨0, Nat.zero_le _, fun q m hq => ?_, start⟩, rfl, rfl, fun _ _ => rfl, ?_⟩
    · intro i o ho hl
      have hi := (Array.getElem?_eq_some_iff.1 ho).1
      simp [Array.getD_eq_getD_getElem?, hi] at hl
    · have hi := hms m (List.mem_of_getElem? hq)
      simp [Array.getD_eq_getD_getElem?, show m < ops.size by omega]
    · intro i o d ho _ hl _
      have hi := (Array.getElem?_eq_some_iff.1 ho).1
      simp [Array.getD_eq_getD_getElem?, hi] at hl
  · exact Nat.le_trans (List.length_filter_le _ _) (by simp)
def StepsQ (P : Program) (ops : Array Oper) (n : Nat) (ms : List Nat) (W : Nat → World → Prop) (Q : Exit → Act → World → Prop) (Φ : Facts) (a0 : Act) : Nat → List Oper → Prop
  | _, [] => True
  | i, o :: r => StepQ P ops n ms W Q Φ a0 i o ∧ StepsQ P ops n ms W Q Φ a0 (i + 1) r
theorem stepsQ_get {P : Program} {ops : Array Oper} {n : Nat} {ms : List Nat} {W : Nat → World → Prop} {Q : Exit → Act → World → Prop} {Φ : Facts} {a0 : Act} : ∀ {l : List Oper} {k : Nat}, StepsQ P ops n ms W Q Φ a0 k l → ∀ i o, l[i]? = some o → StepQ P ops n ms W Q Φ a0 (k + i) o
  | [], _, _, i, o, h => by simp at h
  | x :: r, k, hs, i, o, h => by
    cases i with
    | zero => simp at h; subst h; exact hs.1
    | succ i =>
      have := stepsQ_get hs.2 i o (by simpa using h)
      rwa [show k + 1 + i = k + (i + 1) by omega] at this
theorem steps_Q {P : Program} {ops : Array Oper} {n : Nat} {ms : List Nat} {W : Nat → World → Prop} {Q : Exit → Act → World → Prop} {Φ : Facts} {a0 : Act} (H : StepsQ P ops n ms W Q Φ a0 0 (ops.toList.take n)) : ∀ i o, ops[i]? = some o → i < n → StepQ P ops n ms W Q Φ a0 i o := by
  intro i o ho hi
  have := stepsQ_get H i o (by rw [List.getElem?_take_of_lt hi]; simpa using ho)
  rwa [Nat.zero_add] at this
end Go.Proofs.YtcoieohbmkjpoaaGreatDoor
namespace Go.Proofs.YtcoieohbmkjpoaaGreatDoor
open Go.RowKit Go.Shelf Go.Maps
open Go.ChangeMaps (setBlock)
attribute [local go_sem] Oper.semAt_some

/-- The labels, with a row's block marked. -/
def newLab (lab : Lab) (v : Value) (l : Lbl) : Lab := fun b => if v.ownBlock = some b then l else lab b
theorem newLab_old {lab : Lab} {v u : Value} {l : Lbl} {n : Nat} (hu : ∀ b, u.ownBlock = some b → lab b = l) (hat : v.ownBlock = u.ownBlock ∨ ∃ g, v.ownBlock = some g ∧ n ≤ g) : ∀ b, b < n → newLab lab v l b = lab b := by
  intro b hb
  unfold newLab
  by_cases h : v.ownBlock = some b
  · rw [if_pos h]
    rcases hat with e | ⟨g, e, hg⟩
    · exact (hu b (e ▸ h)).symm
    · rw [e] at h; cases h; omega
  · rw [if_neg h]
theorem newLab_own {lab : Lab} {v : Value} {l : Lbl} : ∀ b, v.ownBlock = some b → newLab lab v l b = l := fun b h => by unfold newLab; rw [if_pos h]
theorem newLab_free {lab : Lab} {v : Value} {l : Lbl} {b : Nat} (h : newLab lab v l b ≠ .free) : v.ownBlock = some b ∨ lab b ≠ .free := by
  unfold newLab at h
  by_cases e : v.ownBlock = some b
  · exact Or.inl e
  · rw [if_neg e] at h; exact Or.inr h
theorem LstI.add {w w2 : World} {X : Lbl → Prop} (hX : ¬ X .free) {lab : Lab} {lv lv' v0 v1 : Value} {L : List Ato} {x : Ato} {xs : List Value} (_ : w.ownsRow 0 24 2 lv L.length xs) (hf : FlatA (fun b => b < w.heap.size ∧ lab b = .free) w xs L) (hb : ∀ b, lv.ownBlock = some b → lab b = .lst)
    (hs : Stp lab X w w2) (hx : AtS (fun b => b < w2.heap.size ∧ newLab lab lv' .lst b = .free) w2 v0 v1 x) (hown : w2.ownsRow 0 24 2 lv' (L.length + 1) (xs ++ [v0, v1]))
    (hat : lv'.ownBlock = lv.ownBlock ∨ ∃ g, lv'.ownBlock = some g ∧ w.heap.size ≤ g) : LstI w2 (newLab lab lv' .lst) lv' (L ++ [x]) := by
  have hl := newLab_old (n := w.heap.size) hb hat
  refine ⟨xs ++ [v0, v1], by simpa using hown, FlatA.snoc hx (hf.same (fun b h => ⟨Nat.lt_of_lt_of_le h.1 hs.size, by rw [hl b h.1]; exact h.2⟩) (fun b h => hs.block b h.1 (by rw [h.2]; exact hX))), newLab_own⟩
theorem isMap_put {D : DataW Unit} (h : IsMap D) (k : Lit) (d : DataW Unit) : IsMap (D.put k d) := by
  obtain ⟨es, rfl⟩ := h
  exact ⟨_, rfl⟩
theorem SigI.put {w w3 : World} {lab lab' : Lab} {m n : Nat} {L : List Ato} {x : Ato} {D : DataW Unit} {val : Sig → Value} {v' : Value} (hd : SetD sigB D (L.map sgOf))
    (hv : ∀ g, SigOk g → D.atKey (sigK g) .nil = slD (val g) ∧ IntR w (val g) (ix (qS g) L) ∧ ∀ b, (val g).ownBlock = some b → lab b = .rowS g)
    (h3 : w3.ownsMap Tryz.prog 41 slE m (n + 1) (D.put (sigK (sgOf x)) (slD v'))) (hg : SigOk (sgOf x)) (hr : IntR w3 v' (ix (qS (sgOf x)) L ++ [L.length])) (hb : ∀ b, v'.ownBlock = some b → lab' b = .rowS (sgOf x))
    (hs : Stp lab (fun l => l = .sgm ∨ l = .rowS (sgOf x)) w w3) (hl : ∀ b, b < w.heap.size → lab' b = lab b) : SigI w3 lab' m (n + 1) (L ++ [x]) := by
  have hmap : IsMap D := by obtain ⟨es, e, _⟩ := hd; exact ⟨es, e⟩
  refine ⟨D.put (sigK (sgOf x)) (slD v'), fun g => if g = sgOf x then v' else val g, h3, by rw [List.map_append]; exact hd.put _ _, fun g hgo => ?_⟩
  by_cases e : g = sgOf x
  · subst e
    simp only [if_true]
    refine ⟨atKey_put_same hmap (by trivial) _ _, ?_, hb⟩
    rw [ix_snoc]
    simpa [qS] using hr
  · simp only [if_neg e]
    obtain ⟨q1, q2, q3⟩ := hv g hgo
    refine ⟨by rw [atKey_put_other (fun e2 => e (sigK_inj hgo hg e2)), q1], ?_, fun b hb2 => by rw [hl b (own_block q2 b hb2).2]; exact q3 b hb2⟩
    have hne : qS g x = false := by unfold qS; exact decide_eq_false (Ne.symm e)
    rw [ix_snoc, hne]
    simp only [Bool.false_eq_true, if_false, List.append_nil]
    exact own_stp hs q2 (fun b hb2 => by rw [q3 b hb2]; rintro (h | h) <;> cases h; exact e rfl)
theorem ArgI.put {w w3 : World} {lab lab' : Lab} {m n k : Nat} {f f' : Pla → List Nat} {D : DataW Unit} {val : Pla → Value} {v' : Value} {p : Pla} (hmap : IsMap D)
    (hv : ∀ g, PlaOk g → D.atKey (plaK g) .nil = slD (val g) ∧ IntR w (val g) (f g) ∧ ∀ b, (val g).ownBlock = some b → lab b = .rowP g)
    (h3 : w3.ownsMap Tryz.prog 89 slE m (n + 1) (D.put (plaK p) (slD v'))) (hg : PlaOk p) (hr : IntR w3 v' (f p ++ [k])) (hb : ∀ b, v'.ownBlock = some b → lab' b = .rowP p)
    (hs : Stp lab (fun l => l = .arm ∨ l = .rowP p) w w3) (hl : ∀ b, b < w.heap.size → lab' b = lab b) (hf : f' p = f p ++ [k]) (hf2 : ∀ q, q ≠ p → f' q = f q) : ArgI w3 lab' m (n + 1) f' := by
  refine ⟨D.put (plaK p) (slD v'), fun g => if g = p then v' else val g, h3, isMap_put hmap _ _, fun g hgo => ?_⟩
  by_cases e : g = p
  · subst e
    simp only [if_true]
    exact ⟨atKey_put_same hmap (by trivial) _ _, by rw [hf]; exact hr, hb⟩
  · simp only [if_neg e]
    obtain ⟨q1, q2, q3⟩ := hv g hgo
    refine ⟨by rw [atKey_put_other (fun e2 => e (plaK_inj hgo hg e2)), q1], ?_, fun b hb2 => by rw [hl b (own_block q2 b hb2).2]; exact q3 b hb2⟩
    rw [hf2 g e]
    exact own_stp hs q2 (fun b hb2 => by rw [q3 b hb2]; rintro (h | h) <;> cases h; exact e rfl)
/-! Facts of the regions in which an entry's row grows. -/
def fOne (z : Nat) (x : Value) (t : TypeId) : VF := fun v w => ∃ g, v = .slice (some ⟨g, 0, none⟩) 1 1 ∧ z ≤ g ∧ w.heap[g]? = some (.cells #[x] t (0, 0))
theorem fOne_stays (z : Nat) (x : Value) (t : TypeId) : Stays (fOne z x t) := fun _ _ _ ⟨g, h1, h2, h3⟩ hb => ⟨g, h1, h2, (hb.block g (Array.getElem?_eq_some_iff.1 h3).1).trans h3⟩
theorem fOne_off {z : Nat} {x : Value} {t : TypeId} {v : Value} {w w' : World} (h : fOne z x t v w) (hk : ∀ b, z ≤ b → b < w.heap.size → w'.heap[b]? = w.heap[b]?) : fOne z x t v w' := by
  obtain ⟨g, h1, h2, h3⟩ := h
  exact ⟨g, h1, h2, (hk g h2 (Array.getElem?_eq_some_iff.1 h3).1).trans h3⟩
/-- What an entry is good for. -/
def Good (T k : TypeId) (m n : Nat) (D : DataW Unit) (kl : Lit) (st : Nat) (es1 : Array MapEntry) (c1 : Nat) : Prop := ∀ (w2 : World) (val : Value), w2.heap[m]? = some (.map es1 c1) → SlV val →
  ∃ w3, (Instr.entryStore T (.map (some m)) (goInt st) val).run Tryz.prog w2 = .ok () w3 ∧ w3.ownsMap Tryz.prog k slE m (n + 1) (D.put kl (slD val)) ∧ w2.grownBy w3 (some m)
def fEnt (T k : TypeId) (m n : Nat) (D : DataW Unit) (kl : Lit) (v0 : Value) : VF := fun v w => ∃ (st : Nat) (es1 : Array MapEntry) (c1 : Nat), v = .tuple #[v0, goInt st] ∧ w.heap[m]? = some (.map es1 c1) ∧ Good T k m n D kl st es1 c1
def fSt (T k : TypeId) (m n : Nat) (D : DataW Unit) (kl : Lit) : VF := fun v w => ∃ (st : Nat) (es1 : Array MapEntry) (c1 : Nat), v = goInt st ∧ w.heap[m]? = some (.map es1 c1) ∧ Good T k m n D kl st es1 c1
theorem fEnt_stays (T k : TypeId) (m n : Nat) (D : DataW Unit) (kl : Lit) (v0 : Value) : Stays (fEnt T k m n D kl v0) := fun _ _ _ ⟨st, es1, c1, h1, h2, h3⟩ hb => ⟨st, es1, c1, h1, (hb.block m (Array.getElem?_eq_some_iff.1 h2).1).trans h2, h3⟩
theorem fSt_stays (T k : TypeId) (m n : Nat) (D : DataW Unit) (kl : Lit) : Stays (fSt T k m n D kl) := fun _ _ _ ⟨st, es1, c1, h1, h2, h3⟩ hb => ⟨st, es1, c1, h1, (hb.block m (Array.getElem?_eq_some_iff.1 h2).1).trans h2, h3⟩
theorem fEnt_off {T k : TypeId} {m n : Nat} {D : DataW Unit} {kl : Lit} {v0 v : Value} {w w' : World} (h : fEnt T k m n D kl v0 v w) (hk : w'.heap[m]? = w.heap[m]?) : fEnt T k m n D kl v0 v w' := by
  obtain ⟨st, es1, c1, h1, h2, h3⟩ := h
  exact ⟨st, es1, c1, h1, hk.trans h2, h3⟩
theorem fSt_off {T k : TypeId} {m n : Nat} {D : DataW Unit} {kl : Lit} {v : Value} {w w' : World} (h : fSt T k m n D kl v w) (hk : w'.heap[m]? = w.heap[m]?) : fSt T k m n D kl v w' := by
  obtain ⟨st, es1, c1, h1, h2, h3⟩ := h
  exact ⟨st, es1, c1, h1, hk.trans h2, h3⟩
/-- The longer row. -/
def fRow (z : Nat) (v0 : Value) (e : TypeId) (size n : Nat) (xs : List Value) : VF := fun v w => w.ownsRow 0 e size v n xs ∧ (v.ownBlock = v0.ownBlock ∨ ∃ g, v.ownBlock = some g ∧ z ≤ g)
theorem fRow_stays (z : Nat) (v0 : Value) (e : TypeId) (size n : Nat) (xs : List Value) : Stays (fRow z v0 e size n xs) := fun _ _ _ h hb => ⟨own_grown' h.1 hb, h.2⟩
theorem wp_append {o : Oper} {a : Act} {w w' : World} {v' sv xv : Value} {R : Act → World → Prop} {Q : Exit → Act → World → Prop} (s x : Operand) (t : TypeId) (ho : o.op = .call { callee := .builtin .append, args := #[s, x], argTypes := #[t, t] })
    (hs : a.eval s = sv) (hx : a.eval x = xv) (hr : (Builtin.append_ #[t, t] o.type #[sv, xv]).run Tryz.prog w = .ok v' w') (h : R (a.put o.dst v') w') : o.wp Tryz.prog a w R Q := by
  unfold Oper.wp execOp
  simp only [ho, resolve, invoke, builtin, Sem.run_bind, Sem.run_pure, Result.andThen_ok, List.map_toArray, List.map_cons, List.map_nil, hs, hx, hr]
  exact h
theorem grown_stp {lab : Lab} {X : Lbl → Prop} {w w' : World} {v : Value} (h : w.grownBy w' v.ownBlock) (hX : ∀ b, v.ownBlock = some b → X (lab b)) : Stp lab X w w' := Stp.of_grown h (fun b e _ => hX b e)
theorem setBlock_stp {lab : Lab} {X : Lbl → Prop} {w : World} {m : Nat} {o : Obj} (hX : X (lab m)) : Stp lab X w (setBlock w m o) := Stp.of_grown (setBlock_grown w m o) (fun b e _ => by cases e; exact hX)
theorem setCell_stp {lab : Lab} {X : Lbl → Prop} {w : World} {p : Addr} {v : Value} (hX : X (lab p.block)) : Stp lab X w (w.setCell p v) :=
  ⟨rfl, rfl, rfl, by simp [World.setCell], fun b _ hb => heap_setCell_other _ _ _ _ (fun e => hb (by rw [e]; exact hX))⟩
/-- The world of a region with three phases. -/
def WQ (lab : Lab) (X Y : Lbl → Prop) (W0 : World) : Nat → World → Prop := fun q wx => (q = 0 → Below W0.heap.size W0 wx) ∧ (q ≤ 1 → Stp lab X W0 wx) ∧ Stp lab Y W0 wx
theorem WQ.start {lab : Lab} {X Y : Lbl → Prop} {W0 : World} : WQ lab X Y W0 0 W0.drew := ⟨fun _ => (Below.refl _ _).drew, fun _ => Stp.of_below (Below.refl _ _).drew, Stp.of_below (Below.refl _ _).drew⟩
theorem WQ.grow {lab : Lab} {X Y : Lbl → Prop} {W0 wx w' : World} {p : Nat} (h : WQ lab X Y W0 p wx) (hb : Below wx.heap.size wx w') : WQ lab X Y W0 p w' :=
  ⟨fun e => (h.1 e).trans (hb.mono (h.1 e).size), fun e => (h.2.1 e).trans (Stp.of_below hb) (fun _ _ => rfl), h.2.2.trans (Stp.of_below hb) (fun _ _ => rfl)⟩
theorem WQ.write0 {lab : Lab} {X Y : Lbl → Prop} {W0 wx w' : World} (h : WQ lab X Y W0 0 wx) (hs : Stp lab X wx w') (hXY : ∀ l, X l → Y l) : WQ lab X Y W0 1 w' :=
  ⟨fun e => by omega, fun _ => (h.2.1 (by omega)).trans hs (fun _ _ => rfl), h.2.2.trans (hs.imp hXY) (fun _ _ => rfl)⟩
theorem WQ.write1 {lab : Lab} {X Y : Lbl → Prop} {W0 wx w' : World} (h : WQ lab X Y W0 1 wx) (hs : Stp lab Y wx w') : WQ lab X Y W0 2 w' :=
  ⟨fun e => by omega, fun e => by omega, h.2.2.trans hs (fun _ _ => rfl)⟩
theorem zero_ints (w : World) : (zeroValue 85).run Tryz.prog w = .ok (.slice none 0 0) w := by kernel_rfl
theorem Tab10.stp {lab : Lab} {w w' : World} {B S : Nat} {L : List Ato} (hI : StI w B lab S L) (hs : Stp lab Own w w') : Tab10 w' := by
  have hB : B ≤ w.heap.size := by
    obtain ⟨lv, m1, m2, m3, n3, h0, hS, _⟩ := hI.mem
    have := hI.mine S (by rw [hS]; intro e; cases e)
    omega
  have hb := hs.low hB (fun b h => (hI.mine b h).1)
  exact ⟨by have := hI.base; have := hs.size; omega, tab_below hb hI.base hI.tab.2⟩
theorem SlV.slice {v : Value} (h : SlV v) : ∃ a n c, v = .slice a n c := by
  rcases h with rfl | ⟨g, n, c, rfl⟩ <;> exact ⟨_, _, _, rfl⟩
end Go.Proofs.YtcoieohbmkjpoaaGreatDoor
namespace Go.Proofs.YtcoieohbmkjpoaaGreatDoor
open Go.RowKit Go.Shelf Go.Maps
open Go.ChangeMaps (setBlock)
attribute [local go_sem] Oper.semAt_some

theorem count_any (v : Value) (a : Option Addr) (n cap : Nat) (hv : v = .slice a n cap) (w : World) : Calls Tryz.prog 52 #[v] w fun e w' => e = .returned (.int .i64 n) ∧ w' = w := by
  subst hv
  go_enter Tryz.func52, Tryz.ntmps52
  go_wp2
  go_ret
  exact ⟨rfl, rfl⟩
def fBox (z : Nat) (cs : Array Value) (t : TypeId) : VF := fun v w => ∃ g, v = .pointer (some ⟨g, 0, none⟩) ∧ z ≤ g ∧ w.heap[g]? = some (.cells cs t (0, 0))
theorem fBox_stays (z : Nat) (cs : Array Value) (t : TypeId) : Stays (fBox z cs t) := fun _ _ _ ⟨g, h1, h2, h3⟩ hb => ⟨g, h1, h2, (hb.block g (Array.getElem?_eq_some_iff.1 h3).1).trans h3⟩
def fAt (z : Nat) (x : Ato) : VF := fun v w => ∃ a c, v = .agg #[.string x.1, .slice a x.2.length c] ∧ AtS (fun b => z ≤ b ∧ b < w.heap.size) w (.string x.1) (.slice a x.2.length c) x
theorem fAt_stays (z : Nat) (x : Ato) : Stays (fAt z x) := fun _ _ _ ⟨a, c, h1, h2⟩ hb => ⟨a, c, h1, h2.same (fun _ h => ⟨h.1, Nat.lt_of_lt_of_le h.2 hb.size⟩) (fun b h => hb.block b h.2)⟩
theorem fAt_off {z : Nat} {x : Ato} {v : Value} {w w' : World} (h : fAt z x v w) (hk : ∀ b, z ≤ b → b < w.heap.size → w'.heap[b]? = w.heap[b]?) (hs : w.heap.size ≤ w'.heap.size) : fAt z x v w' := by
  obtain ⟨a, c, h1, h2⟩ := h
  exact ⟨a, c, h1, h2.same (fun b h => ⟨h.1, Nat.lt_of_lt_of_le h.2 hs⟩) (fun b h => hk b h.1 h.2)⟩
def fOneA (z : Nat) (x : Ato) : VF := fun v w => ∃ g a c, v = .slice (some ⟨g, 0, none⟩) 1 1 ∧ z ≤ g ∧ w.heap[g]? = some (.cells #[.string x.1, .slice a x.2.length c] 24 (0, 0)) ∧ AtS (fun b => z ≤ b ∧ b < w.heap.size) w (.string x.1) (.slice a x.2.length c) x
theorem fOneA_off {z : Nat} {x : Ato} {v : Value} {w w' : World} (h : fOneA z x v w) (hk : ∀ b, z ≤ b → b < w.heap.size → w'.heap[b]? = w.heap[b]?) (hs : w.heap.size ≤ w'.heap.size) : fOneA z x v w' := by
  obtain ⟨g, a, c, h1, h2, h3, h4⟩ := h
  exact ⟨g, a, c, h1, h2, (hk g h2 (Array.getElem?_eq_some_iff.1 h3).1).trans h3, h4.same (fun b h => ⟨h.1, Nat.lt_of_lt_of_le h.2 hs⟩) (fun b h => hk b h.1 h.2)⟩
theorem fOneA_stays (z : Nat) (x : Ato) : Stays (fOneA z x) := fun _ _ _ h hb => fOneA_off h (fun b _ h2 => hb.block b h2) hb.size
/-- The list with one atom more. -/
def fRowA (z : Nat) (lv : Value) (xs : List Value) (n : Nat) (x : Ato) : VF := fun v w => ∃ a c, w.ownsRow 0 24 2 v (n + 1) (xs ++ [.string x.1, .slice a x.2.length c]) ∧ (v.ownBlock = lv.ownBlock ∨ ∃ g, v.ownBlock = some g ∧ z ≤ g) ∧ AtS (fun b => z ≤ b ∧ b < w.heap.size ∧ v.ownBlock ≠ some b) w (.string x.1) (.slice a x.2.length c) x
theorem fRowA_stays (z : Nat) (lv : Value) (xs : List Value) (n : Nat) (x : Ato) : Stays (fRowA z lv xs n x) := fun _ _ _ ⟨a, c, h1, h2, h3⟩ hb => ⟨a, c, own_grown' h1 hb, h2, h3.same (fun _ h => ⟨h.1, Nat.lt_of_lt_of_le h.2.1 hb.size, h.2.2⟩) (fun b h => hb.block b h.2.1)⟩
theorem row2_one {S : Nat → Prop} {w : World} {v0 v1 : Value} {x : Ato} (h : AtS S w v0 v1 x) : ∀ u ∈ [v0, v1], u.oneCell' = true := by
  obtain ⟨a, c, rfl, rfl⟩ := h.shape
  intro u hu
  simp only [List.mem_cons, List.not_mem_nil, or_false] at hu
  rcases hu with rfl | rfl <;> rfl
/-- The world of a region's phases. -/
def WP (lab : Lab) (X : Lbl → Prop) (W0 : World) : Nat → World → Prop := fun q wx => (q = 0 → Below W0.heap.size W0 wx) ∧ Stp lab X W0 wx
theorem WP.start {lab : Lab} {X : Lbl → Prop} {W0 : World} : WP lab X W0 0 W0.drew := ⟨fun _ => (Below.refl _ _).drew, Stp.of_below (Below.refl _ _).drew⟩
theorem WP.grow {lab : Lab} {X : Lbl → Prop} {W0 wx w' : World} {p : Nat} (h : WP lab X W0 p wx) (hb : Below wx.heap.size wx w') : WP lab X W0 p w' := ⟨fun e => (h.1 e).trans (hb.mono (h.1 e).size), h.2.trans (Stp.of_below hb) (fun _ _ => rfl)⟩
theorem WP.write {lab : Lab} {X : Lbl → Prop} {W0 wx w' : World} {p : Nat} (h : WP lab X W0 p wx) (hs : Stp lab X wx w') : WP lab X W0 (p + 1) w' := ⟨fun e => by omega, h.2.trans hs (fun _ _ => rfl)⟩
/-- Where insert has come to: the world, what it has kept, the list with its new atom. -/
structure Ins (w W : World) (lab lab1 : Lab) (B S gb : Nat) (p : ByteArray) (us : List Tm) (av : Option Addr) (cap : Nat) (lv : Value) (m1 m2 m3 : Nat) (L : List Ato) : Prop where
  stp : Stp lab Own w W
  row : W.heap[S]? = some (.cells #[lv, .map (some m1), .map (some m2), .map (some m3), .pointer (some ⟨S, 0, none⟩)] 59 (0, 0))
  g : W.heap[gb]? = some (.cells #[.string p, .int .i64 us.length] 41 (0, 0))
  xb : W.heap[w.heap.size]? = some (.cells #[.string p, .slice av us.length cap] 24 (0, 0))
  at' : AtS (fun b => b < w.heap.size ∧ lab b = .free) W (.string p) (.slice av us.length cap) (p, us)
  tab : Tab10 W
  p1 : LstI W lab1 lv (L ++ [(p, us)])
  fr : ∀ b, lab1 b ≠ .free → B ≤ b ∧ b < W.heap.size
  nb : lab1 gb = .free ∧ lab1 w.heap.size = .free
  k : lab1 S = .obj ∧ lab1 m1 = .num ∧ lab1 m2 = .sgm ∧ lab1 m3 = .arm
  n1 : ∀ b, b < w.heap.size → lab1 b = lab b
theorem Ins.step {w W W' : World} {lab lab1 lab2 : Lab} {B S gb : Nat} {p : ByteArray} {us : List Tm} {av : Option Addr} {cap : Nat} {lv : Value} {m1 m2 m3 : Nat} {L L0 : List Ato} {X : Lbl → Prop} (h : Ins w W lab lab1 B S gb p us av cap lv m1 m2 m3 L) (hI : StI w B lab S L0)
    (hs : Stp lab1 X W W') (hX : ∀ l, X l → Own l ∧ l ≠ .obj ∧ l ≠ .lst) (hl : ∀ b, b < W.heap.size → lab2 b = lab1 b) (hfr : ∀ b, lab2 b ≠ .free → B ≤ b ∧ b < W'.heap.size) : Ins w W' lab lab2 B S gb p us av cap lv m1 m2 m3 L := by
  have hsw : Stp lab Own w W' := h.stp.trans (hs.imp (fun l hl => (hX l hl).1)) h.n1
  have hnf : ¬ X .free := fun e => (hX _ e).1.1 rfl
  have hno : ¬ X .obj := fun e => (hX _ e).2.1 rfl
  have hlt : ∀ b l, lab1 b = l → l ≠ .free → lab2 b = l := fun b l e hl' => by rw [hl b (h.fr b (by rw [e]; exact hl')).2]; exact e
  have hgl := (Array.getElem?_eq_some_iff.1 h.g).1
  have hxl := (Array.getElem?_eq_some_iff.1 h.xb).1
  exact ⟨hsw, (hs.block S (Array.getElem?_eq_some_iff.1 h.row).1 (by rw [h.k.1]; exact hno)).trans h.row, (hs.block gb hgl (by rw [h.nb.1]; exact hnf)).trans h.g, (hs.block _ hxl (by rw [h.nb.2]; exact hnf)).trans h.xb, h.at'.same (fun _ h => h) (fun b hb => hs.block b (Nat.lt_of_lt_of_le hb.1 h.stp.size) (by rw [h.n1 b hb.1, hb.2]; exact hnf)), Tab10.stp hI hsw, h.p1.step hs (fun e => (hX _ e).2.2 rfl) hnf hl, hfr, ⟨by rw [hl gb hgl]; exact h.nb.1, by rw [hl _ hxl]; exact h.nb.2⟩, ⟨hlt S _ h.k.1 (by intro e; cases e), hlt m1 _ h.k.2.1 (by intro e; cases e), hlt m2 _ h.k.2.2.1 (by intro e; cases e), hlt m3 _ h.k.2.2.2 (by intro e; cases e)⟩, fun b hb => by rw [hl b (Nat.lt_of_lt_of_le hb h.stp.size)]; exact h.n1 b hb⟩
open Classical in
/-- The numbers by places, where the first j arguments of the new atom have been entered. -/
noncomputable def fJ (x : Ato) (L : List Ato) (j : Nat) : Pla → List Nat := fun q => ix (qP q) L ++ (if q ∈ (places x).take j then [L.length] else [])
theorem places_len (x : Ato) : (places x).length = x.2.length := by simp [places]
def plaAt (x : Ato) (j : Nat) (h : j < x.2.length) : Pla := (sgOf x, (j : Int), x.2[j].str)
theorem places_at (x : Ato) (j : Nat) (h : j < x.2.length) : (places x)[j]'(by rw [places_len]; exact h) = plaAt x j h := by
  simp [places, plaAt, h]
theorem places_take (x : Ato) (j : Nat) (h : j < x.2.length) : (places x).take (j + 1) = (places x).take j ++ [plaAt x j h] := by
  rw [List.take_succ_eq_append_getElem (by rw [places_len]; exact h), places_at]
theorem places_lt {x : Ato} {j : Nat} {q : Pla} (h : q ∈ (places x).take j) : q.2.1 < (j : Int) := by
  obtain ⟨i, hi, e⟩ := List.mem_iff_getElem.1 h
  rw [List.length_take, places_len] at hi
  rw [List.getElem_take, places_at x i (by omega)] at e
  rw [← e]
  show (i : Int) < j
  omega
theorem fJ_zero (x : Ato) (L : List Ato) : fJ x L 0 = fun q => ix (qP q) L := by funext q; simp [fJ]
theorem fJ_end (x : Ato) (L : List Ato) : fJ x L x.2.length = fun q => ix (qP q) (L ++ [x]) := by
  funext q
  rw [ix_snoc]
  unfold fJ qP
  rw [List.take_of_length_le (by rw [places_len]; exact Nat.le_refl _)]
  by_cases h : q ∈ places x <;> simp [h]
theorem fJ_here (x : Ato) (L : List Ato) (j : Nat) (h : j < x.2.length) : fJ x L (j + 1) (plaAt x j h) = fJ x L j (plaAt x j h) ++ [L.length] := by
  have h1 : plaAt x j h ∉ (places x).take j := fun hm => by have := places_lt hm; simp [plaAt] at this
  unfold fJ
  rw [places_take x j h, if_pos (by simp), if_neg h1]
  simp
theorem fJ_other (x : Ato) (L : List Ato) (j : Nat) (h : j < x.2.length) (q : Pla) (hq : q ≠ plaAt x j h) : fJ x L (j + 1) q = fJ x L j q := by
  unfold fJ
  rw [places_take x j h]
  by_cases hm : q ∈ (places x).take j
  · rw [if_pos (List.mem_append_left _ hm), if_pos hm]
  · rw [if_neg (by simp [hm, hq]), if_neg hm]
theorem fJ_len (x : Ato) (L : List Ato) (j : Nat) (q : Pla) : (fJ x L j q).length ≤ L.length + 1 := by
  unfold fJ
  rw [List.length_append]
  have := ix_len (qP q) L
  split <;> simp <;> omega
/-- Where the loop over the arguments has come to. -/
def InsJ (w W : World) (lab : Lab) (B S gb : Nat) (p : ByteArray) (us : List Tm) (av : Option Addr) (cap : Nat) (lv : Value) (m1 m2 m3 n3 : Nat) (L : List Ato) (j : Nat) : Prop :=
  ∃ lab1, Ins w W lab lab1 B S gb p us av cap lv m1 m2 m3 L ∧ NumI W m1 (L.length + 1) (L ++ [(p, us)]) ∧ SigI W lab1 m2 (L.length + 1) (L ++ [(p, us)]) ∧ ArgI W lab1 m3 (n3 + j) (fJ (p, us) L j)
theorem IntR.cast {w : World} {v : Value} {is : List Nat} {k : Nat} (h : w.ownsRow 0 3 1 v (is.length + 1) ((is.map fun i : Nat => Value.int .i64 (i : Int)) ++ [.int .i64 (k : Int)])) : IntR w v (is ++ [k]) := by
  unfold IntR
  simpa using h
theorem own_keep {w w' : World} {base : Nat} {e : TypeId} {size : Nat} {v : Value} {n : Nat} {xs : List Value} {m : Nat} (h : w.ownsRow base e size v n xs) (hg : w.grownBy w' (some m)) (hm : v.ownBlock ≠ some m) : w'.ownsRow base e size v n xs :=
  h.kept hg (by cases hv : v.ownBlock with | none => exact Or.inl rfl | some b => exact Or.inr (by rw [← hv]; exact hm))
theorem newLab_frees {W W' : World} {lab : Lab} {v u : Value} {l : Lbl} {B : Nat} (hfr : ∀ b, lab b ≠ .free → B ≤ b ∧ b < W.heap.size) (hu : ∀ b, u.ownBlock = some b → lab b = l) (hl : l ≠ .free) (hat : v.ownBlock = u.ownBlock ∨ ∃ g, v.ownBlock = some g ∧ W.heap.size ≤ g)
    (hv : ∀ b, v.ownBlock = some b → b < W'.heap.size) (hs : W.heap.size ≤ W'.heap.size) (hB : B ≤ W.heap.size) : ∀ b, newLab lab v l b ≠ .free → B ≤ b ∧ b < W'.heap.size := by
  intro b hb
  rcases newLab_free hb with h | h
  · refine ⟨?_, hv b h⟩
    rcases hat with e | ⟨g, e, hg⟩
    · exact (hfr b (by rw [hu b (e ▸ h)]; exact hl)).1
    · rw [h] at e; cases e; omega
  · exact ⟨(hfr b h).1, by have := (hfr b h).2; omega⟩
theorem wpList_entry_run {P : Program} {w w' : World} {mv sv vv : Value} {ops : Array Oper} {rest : List Oper} {o : Oper} {a : Act} {Q : Exit → Act → World → Prop} (hgd : o.guard = none) (m st v : Operand) (t : TypeId)
    (ho : o.op = .entryStore t m st v) (hm : a.eval m = mv) (hst : a.eval st = sv) (hv : a.eval v = vv) (hr : (Instr.entryStore t mv sv vv).run P w = .ok () w')
    (h : wpList P ops Q rest (a.put o.dst undef) w') : wpList P ops Q (o :: rest) a w := by
  refine wpList_plain hgd fun K hK => ?_
  unfold Oper.wp
  simp [execOp, ho, hm, hst, hv, hr, Result.andThen]
  exact hK _ _ h
set_option maxRecDepth 100000 in
set_option maxHeartbeats 8000000 in
theorem insert_any (B S : Nat) (lab : Lab) (L : List Ato) (x : Ato) (av : Option Addr) (cap : Nat) (w : World) (hI : StI w B lab S L) (hx : AtS (fun b => b < w.heap.size ∧ lab b = .free) w (.string x.1) (.slice av x.2.length cap) x) (hv : validA x = true) (hc : cntA x ≤ 1000000) (hL : L.length < 2000) :
    Calls Tryz.prog 53 #[.pointer (some ⟨S, 0, none⟩), .agg #[.string x.1, .slice av x.2.length cap]] w fun e w' => e = .returned (.tuple #[]) ∧ ∃ lab', StI w' B lab' S (L ++ [x]) ∧ (∀ b, b < w.heap.size → lab' b = lab b) ∧ Stp lab Own w w' := by
  have HI := Lib.hid hI
  obtain ⟨lv, m1, m2, m3, n3, h0, hS, l1, l2, l3, p1, p2, p3, p4, p5⟩ := hI.mem
  have hmine := hI.mine
  obtain ⟨p, us⟩ := x
  simp only at hx
  change Calls Tryz.prog 53 #[.pointer (some ⟨S, 0, none⟩), .agg #[.string p, .slice av us.length cap]] w _
  obtain ⟨xs, ho, hf, hlst⟩ := p1
  obtain ⟨la, lc, hlv⟩ := own_slice ho
  have hzS : S < w.heap.size := (Array.getElem?_eq_some_iff.1 h0).1
  obtain ⟨W1, hW1⟩ : ∃ W1, w.alloc (.cells #[.string p, .slice av us.length cap] 24) = W1 := ⟨_, rfl⟩
  have hB1 : Below w.heap.size w W1 := by rw [← hW1]; exact (Below.refl _ w).alloc (Nat.le_refl _) _
  have hx1 : W1.heap[w.heap.size]? = some (.cells #[.string p, .slice av us.length cap] 24 (0, 0)) := by rw [← hW1]; exact World.alloc_heap_new _ _
  have HZ1 := Lib.hid (show w.heap.size < W1.heap.size by rw [← hW1]; simp)
  have HZS := Lib.hid (show S < W1.heap.size by rw [← hW1]; simp; omega)
  have HZw := Lib.hid hzS
  have HB1 := Lib.hid hB1
  have HX1 := Lib.hid hx1
  have HS1 := Lib.hid ((hB1.block S hzS).trans h0)
  have HLV := Lib.hid hlv
  have HMI := Lib.hid hmine
  have HO := Lib.hid ho
  have HF := Lib.hid hf
  have HLL := Lib.hid hlst
  have HLS := Lib.hid hS
  have HL1 := Lib.hid l1
  have HL2 := Lib.hid l2
  have HL3 := Lib.hid l3
  have HP2 := Lib.hid p2
  have HP3 := Lib.hid p3
  have HP4 := Lib.hid p4
  have HP5 := Lib.hid p5
  have HAT := Lib.hid hx
  have HV := Lib.hid hv
  have HC := Lib.hid hc
  have HLen := Lib.hid hL
  clear hI hmine h0 hS l1 l2 l3 p2 p3 p4 p5 hx hv hc ho hf hlst hlv hzS hB1 hx1
  go_enter Tryz.func53, Tryz.ntmps53
  refine wp_seq_k fun K0 hK0 => ?_
  have HK0 := Lib.hid hK0
  clear hK0
  go_wp2_with fail
  refine HK0.out _ _ ?_
  clear HK0
  try rw [hW1]
  refine wp_seq_k fun K1 hK1 => ?_
  have HK1 := Lib.hid hK1
  clear hK1
  have hst := @FL_grow [fV (.pointer (some ⟨S, 0, none⟩)), fV (.pointer (some ⟨S, 0, none⟩)), fV (.pointer (some ⟨S, 0, none⟩)), fV (lv), fV (.int .i64 L.length), fV (.agg #[.string p, .slice av us.length cap]), fV (.agg #[.string p, .int .i64 us.length]), fBox W1.heap.size #[.string ⟨#[]⟩, .int .i64 0] 41] (by
    intro F hF
    simp only [List.mem_cons, List.not_mem_nil, or_false] at hF
    rcases hF with rfl | rfl | rfl | rfl | rfl | rfl | rfl | rfl <;> first | exact fV_stays _ | exact fBox_stays _ _ _)
  refine wp_region_grow_tail (by kernel_rfl) 8 (FL [fV (.pointer (some ⟨S, 0, none⟩)), fV (.pointer (some ⟨S, 0, none⟩)), fV (.pointer (some ⟨S, 0, none⟩)), fV (lv), fV (.int .i64 L.length), fV (.agg #[.string p, .slice av us.length cap]), fV (.agg #[.string p, .int .i64 us.length]), fBox W1.heap.size #[.string ⟨#[]⟩, .int .i64 0] 41]) hst (by kernel_rfl) (by kernel_rfl) (steps_to ?_) ?_
  · simp only [List.take_succ_cons, List.take_zero]
    refine ⟨?_, ?_, ?_, ?_, ?_, ?_, ?_, ?_, trivial⟩
    · intro a wx hb hd hs ho hp
      refine ⟨rfl, ?_⟩
      have h0 : a.tmps.getD 0 undef = .pointer (some ⟨S, 0, none⟩) := (ho 0 (by kernel_rfl)).trans rfl
      unfold Oper.wp
      go_simp
      exact Stepped.at (v := .pointer (some ⟨S, 0, none⟩)) (by first | rfl | simp) hd (Below.refl _ _) rfl
    · intro a wx hb hd hs ho hp
      refine ⟨rfl, ?_⟩
      have h9 : a.tmps.getD 9 undef = .pointer (some ⟨S, 0, none⟩) := facts_at hp 0 9 (by kernel_rfl)
      unfold Oper.wp
      go_simp
      exact Stepped.at (v := .pointer (some ⟨S, 0, none⟩)) (by first | rfl | simp) hd (Below.refl _ _) rfl
    · intro a wx hb hd hs ho hp
      refine ⟨rfl, ?_⟩
      have h10 : a.tmps.getD 10 undef = .pointer (some ⟨S, 0, none⟩) := facts_at hp 1 10 (by kernel_rfl)
      unfold Oper.wp
      go_simp
      exact Stepped.at (v := .pointer (some ⟨S, 0, none⟩)) (by first | rfl | simp) hd (Below.refl _ _) rfl
    · intro a wx hb hd hs ho hp
      refine ⟨rfl, ?_⟩
      have h11 : a.tmps.getD 11 undef = .pointer (some ⟨S, 0, none⟩) := facts_at hp 2 11 (by kernel_rfl)
      have hx := (hb.block S HZS.out).trans HS1.out
      have x0 := cells_at hx 0 _ rfl
      unfold Oper.wp
      go_simp
      exact Stepped.at (v := lv) (by first | rfl | simp) hd (Below.refl _ _) rfl
    · intro a wx hb hd hs ho hp
      refine ⟨rfl, ?_⟩
      have h12 : a.tmps.getD 12 undef = lv := facts_at hp 3 12 (by kernel_rfl)
      unfold Oper.wp
      go_simp
      refine (count_any lv la L.length lc HLV.out wx).mono ?_
      rintro e w9 ⟨rfl, rfl⟩
      exact Stepped.at (v := .int .i64 L.length) (by first | rfl | simp) hd (Below.refl _ _) rfl
    · intro a wx hb hd hs ho hp
      refine ⟨rfl, ?_⟩
      have h3 : a.tmps.getD 3 undef = .pointer (some ⟨w.heap.size, 0, none⟩) := (ho 3 (by kernel_rfl)).trans rfl
      have hx := (hb.block w.heap.size HZ1.out).trans HX1.out
      have s3 := qslot_of (hs.trans (rfl : _ = 70)) (by decide) h3
      have x0 := cells_at hx 0 _ rfl
      have x1 := cells_at hx 1 _ rfl
      unfold Oper.wp
      go_simp
      exact Stepped.at (v := .agg #[.string p, .slice av us.length cap]) (by first | rfl | simp) hd (Below.refl _ _) rfl
    · intro a wx hb hd hs ho hp
      refine ⟨rfl, ?_⟩
      have h14 : a.tmps.getD 14 undef = .agg #[.string p, .slice av us.length cap] := facts_at hp 5 14 (by kernel_rfl)
      unfold Oper.wp
      go_simp
      refine (of_any p av us.length cap wx).mono ?_
      rintro e w9 ⟨rfl, hb9⟩
      exact Stepped.at (v := .agg #[.string p, .int .i64 us.length]) rfl hd (hb9) rfl
    · intro a wx hb hd hs ho hp
      refine ⟨rfl, ?_⟩
      unfold Oper.wp
      go_simp
      refine Stepped.at (v := .pointer (some ⟨wx.heap.size, 0, none⟩)) rfl hd ((Below.refl _ _).alloc (Nat.le_refl _) _) ?_
      exact ⟨_, rfl, hb.size, World.alloc_heap_new _ _⟩
  intro ac W2 hBelow hDefers hTmps hOuter hf
  obtain ⟨u9, f9⟩ : ∃ u, ac.tmps.getD 9 undef = u := ⟨_, rfl⟩
  obtain ⟨u10, f10⟩ : ∃ u, ac.tmps.getD 10 undef = u := ⟨_, rfl⟩
  obtain ⟨u11, f11⟩ : ∃ u, ac.tmps.getD 11 undef = u := ⟨_, rfl⟩
  obtain ⟨u12, f12⟩ : ∃ u, ac.tmps.getD 12 undef = u := ⟨_, rfl⟩
  have f13 : ac.tmps.getD 13 undef = .int .i64 L.length := facts_to hf 4 13 (by decide) (by kernel_rfl)
  obtain ⟨u14, f14⟩ : ∃ u, ac.tmps.getD 14 undef = u := ⟨_, rfl⟩
  have f15 : ac.tmps.getD 15 undef = .agg #[.string p, .int .i64 us.length] := facts_to hf 6 15 (by decide) (by kernel_rfl)
  have g5 := facts_to hf 7 5 (by decide) (by kernel_rfl)
  obtain ⟨v5, f5⟩ : ∃ u, ac.tmps.getD 5 undef = u := ⟨_, rfl⟩
  rw [f5] at g5
  obtain ⟨TT, DD⟩ := ac
  obtain rfl : DD = [] := hDefers
  have hE := slots_mergeR [false, false, false, false, false, true, false, false, false, true, true, true, true, true, true, true, false, false, false, false, false, false, false, false, false, false, false, false, false, false, false, false, false, false, false, false, false, false, false, false, false, false, false, false, false, false, false, false, false, false, false, false, false, false, false, false, false, false, false, false, false, false, false, false, false, false, false, false, false, false] 70 hTmps rfl (by kernel_rfl) hOuter
  simp only [mergeFrom, Nat.zero_add, Nat.reduceAdd, f9, f10, f11, f12, f13, f14, f15, f5] at hE
  clear hst hf hOuter hTmps f9 f10 f11 f12 f13 f14 f15 f5
  subst hE
  simp only [List.drop_succ_cons, List.drop_zero]
  obtain ⟨gb, rfl, hgz, hgh⟩ := g5
  have y0 := cells_at hgh 0 _ rfl
  have y1 := cells_at hgh 1 _ rfl
  have f0 := frozen_of_row W2 gb 0 _ _ hgh
  have f1 := frozen_of_row W2 gb 1 _ _ hgh
  have HGH := Lib.hid hgh
  have HGZ := Lib.hid hgz
  have HB2 := Lib.hid hBelow
  clear hgh hgz hBelow
  go_wp2_with fail
  obtain ⟨W3, hW3⟩ : ∃ W3, (W2.setCell ⟨gb, 0, none⟩ (.string p)).setCell ⟨gb, 1, none⟩ (.int .i64 us.length) = W3 := ⟨_, rfl⟩
  have hg3 : W3.heap[gb]? = some (.cells #[.string p, .int .i64 us.length] 41 (0, 0)) := by
    rw [← hW3]
    have h1 := heap_setCell_same W2 gb 0 _ _ (.string p) HGH.out
    have h2 := heap_setCell_same _ gb 1 _ _ (.int .i64 us.length) h1
    exact h2
  have hB3 : Below W1.heap.size W1 W3 := by rw [← hW3]; exact (HB2.out.setCell (p := ⟨gb, 0, none⟩) HGZ.out _).setCell (p := ⟨gb, 1, none⟩) HGZ.out _
  have HB3 := Lib.hid hB3
  have HG3 := Lib.hid hg3
  have HS3 := Lib.hid ((hB3.block S HZS.out).trans HS1.out)
  have HX3 := Lib.hid ((hB3.block w.heap.size HZ1.out).trans HX1.out)
  have HZ3 := Lib.hid hB3.size
  have HBw := Lib.hid (HB1.out.trans (hB3.mono HB1.out.size))
  try rw [hW3]
  clear hW3 hB3 hg3 y0 y1 f0 f1 HB2 HGH
  refine HK1.out _ _ ?_
  clear HK1
  refine wp_seq_k fun K2 hK2 => ?_
  have HK2 := Lib.hid hK2
  clear hK2
  have hat3 : AtS (fun b => b < w.heap.size ∧ lab b = .free) W3 (.string p) (.slice av us.length cap) (p, us) := HAT.out.same (fun _ h => h) (fun b h => HBw.out.block b h.1)
  have HA3 := Lib.hid hat3
  have hzw : w.heap.size ≤ W3.heap.size := HBw.out.size
  have ho3 : W3.ownsRow 0 24 2 lv L.length xs := own_grown' HO.out HBw.out
  have HO3 := Lib.hid ho3
  have hobl : ∀ b, lv.ownBlock = some b → b < w.heap.size := fun b e => (own_block HO.out b e).2
  have HOB := Lib.hid hobl
  clear hat3 ho3 hobl
  have hst := @FL_grow [fV (.pointer (some ⟨S, 0, none⟩)), fV (.pointer (some ⟨S, 0, none⟩)), fV (.pointer (some ⟨S, 0, none⟩)), fV (.pointer (some ⟨S, 0, none⟩)), fV (lv), fV (.agg #[.string p, .slice av us.length cap]), fAt W3.heap.size (p, us), fOneA W3.heap.size (p, us), fRowA W3.heap.size lv xs L.length (p, us)] (by
    intro F hF
    simp only [List.mem_cons, List.not_mem_nil, or_false] at hF
    rcases hF with rfl | rfl | rfl | rfl | rfl | rfl | rfl | rfl | rfl <;> first | exact fV_stays _ | exact fAt_stays _ _ | exact fOneA_stays _ _ | exact fRowA_stays _ _ _ _ _)
  refine wp_region_phase_tail (by kernel_rfl) 9 [8] (WP lab (fun l => l = .lst) W3) (FL [fV (.pointer (some ⟨S, 0, none⟩)), fV (.pointer (some ⟨S, 0, none⟩)), fV (.pointer (some ⟨S, 0, none⟩)), fV (.pointer (some ⟨S, 0, none⟩)), fV (lv), fV (.agg #[.string p, .slice av us.length cap]), fAt W3.heap.size (p, us), fOneA W3.heap.size (p, us), fRowA W3.heap.size lv xs L.length (p, us)]) (by kernel_rfl) (by kernel_rfl) (by decide) (by kernel_rfl) (WP.start) (steps_Q ?_) ?_
  · simp only [List.take_succ_cons, List.take_zero]
    refine ⟨?_, ?_, ?_, ?_, ?_, ?_, ?_, ?_, ?_, trivial⟩
    · intro p0 a wx hW hq1 hq2 hd hs ho hp
      refine ⟨rfl, ?_⟩
      have h0 : a.tmps.getD 0 undef = .pointer (some ⟨S, 0, none⟩) := (ho 0 (by kernel_rfl)).trans rfl
      unfold Oper.wp
      go_simp
      exact SteppedP.grow (v := .pointer (some ⟨S, 0, none⟩)) (by first | rfl | simp) hd (by decide) (hW) rfl (Below.refl _ _) hst
    · intro p0 a wx hW hq1 hq2 hd hs ho hp
      refine ⟨rfl, ?_⟩
      have h0 : a.tmps.getD 0 undef = .pointer (some ⟨S, 0, none⟩) := (ho 0 (by kernel_rfl)).trans rfl
      unfold Oper.wp
      go_simp
      exact SteppedP.grow (v := .pointer (some ⟨S, 0, none⟩)) (by first | rfl | simp) hd (by decide) (hW) rfl (Below.refl _ _) hst
    · intro p0 a wx hW hq1 hq2 hd hs ho hp
      refine ⟨rfl, ?_⟩
      have h17 : a.tmps.getD 17 undef = .pointer (some ⟨S, 0, none⟩) := facts_at hp 1 17 (by kernel_rfl)
      unfold Oper.wp
      go_simp
      exact SteppedP.grow (v := .pointer (some ⟨S, 0, none⟩)) (by first | rfl | simp) hd (by decide) (hW) rfl (Below.refl _ _) hst
    · intro p0 a wx hW hq1 hq2 hd hs ho hp
      refine ⟨rfl, ?_⟩
      have h18 : a.tmps.getD 18 undef = .pointer (some ⟨S, 0, none⟩) := facts_at hp 2 18 (by kernel_rfl)
      unfold Oper.wp
      go_simp
      exact SteppedP.grow (v := .pointer (some ⟨S, 0, none⟩)) (by first | rfl | simp) hd (by decide) (hW) rfl (Below.refl _ _) hst
    · intro p0 a wx hW hq1 hq2 hd hs ho hp
      refine ⟨rfl, ?_⟩
      obtain rfl : p0 = 0 := Nat.le_zero.1 (hq1 0 8 rfl (Or.inr (by kernel_rfl)))
      have hb : Below W3.heap.size W3 wx := hW.1 rfl
      have h19 : a.tmps.getD 19 undef = .pointer (some ⟨S, 0, none⟩) := facts_at hp 3 19 (by kernel_rfl)
      have hx := (hb.block S (Nat.lt_of_lt_of_le HZw.out hzw)).trans HS3.out
      have x0 := cells_at hx 0 _ rfl
      unfold Oper.wp
      go_simp
      exact SteppedP.grow (v := lv) (by first | rfl | simp) hd (by decide) (hW) rfl (Below.refl _ _) hst
    · intro p0 a wx hW hq1 hq2 hd hs ho hp
      refine ⟨rfl, ?_⟩
      obtain rfl : p0 = 0 := Nat.le_zero.1 (hq1 0 8 rfl (Or.inr (by kernel_rfl)))
      have hb : Below W3.heap.size W3 wx := hW.1 rfl
      have h3 : a.tmps.getD 3 undef = .pointer (some ⟨w.heap.size, 0, none⟩) := (ho 3 (by kernel_rfl)).trans rfl
      have hx := (hb.block w.heap.size (Nat.lt_of_lt_of_le HZ1.out HZ3.out)).trans HX3.out
      have s3 := qslot_of (hs.trans (rfl : _ = 70)) (by decide) h3
      have x0 := cells_at hx 0 _ rfl
      have x1 := cells_at hx 1 _ rfl
      unfold Oper.wp
      go_simp
      exact SteppedP.grow (v := .agg #[.string p, .slice av us.length cap]) (by first | rfl | simp) hd (by decide) (hW) rfl (Below.refl _ _) hst
    · intro p0 a wx hW hq1 hq2 hd hs ho hp
      refine ⟨rfl, ?_⟩
      obtain rfl : p0 = 0 := Nat.le_zero.1 (hq1 0 8 rfl (Or.inr (by kernel_rfl)))
      have hb : Below W3.heap.size W3 wx := hW.1 rfl
      have h21 : a.tmps.getD 21 undef = .agg #[.string p, .slice av us.length cap] := facts_at hp 5 21 (by kernel_rfl)
      have hx := cloneAtom_any (p, us) av cap _ wx (HA3.out.same (S' := fun b => b < w.heap.size) (fun b h => h.1) (fun b h => hb.block b (by omega))) (fun b h => by have := hb.size; omega) HC.out
      unfold Oper.wp
      go_simp
      refine hx.mono ?_
      rintro e w9 ⟨a9, c9, rfl, hb9, hT9⟩
      refine SteppedP.grow (v := .agg #[.string p, .slice a9 us.length c9]) rfl hd (by decide) (hW.grow hb9) ?_ hb9 hst
      exact ⟨a9, c9, rfl, hT9.same (fun b h => ⟨by have := hb.size; have := h.1; omega, h.2⟩) (fun _ _ => rfl)⟩
    · intro p0 a wx hW hq1 hq2 hd hs ho hp
      refine ⟨rfl, ?_⟩
      obtain rfl : p0 = 0 := Nat.le_zero.1 (hq1 0 8 rfl (Or.inr (by kernel_rfl)))
      have hb : Below W3.heap.size W3 wx := hW.1 rfl
      have h22 := facts_at hp 6 22 (by kernel_rfl)
      obtain ⟨a9, c9, e22, hT⟩ := h22
      have h22 : a.tmps.getD 22 undef = .agg #[.string p, .slice a9 us.length c9] := e22
      have s22 := qslot_of (hs.trans (rfl : _ = 70)) (by decide) h22
      have hbA : Below wx.heap.size wx (wx.alloc (.cells #[.string p, .slice a9 us.length c9] 24)) := (Below.refl _ _).alloc (Nat.le_refl _) _
      clear e22
      unfold Oper.wp
      go_simp
      refine SteppedP.grow (v := .slice (some ⟨wx.heap.size, 0, none⟩) 1 1) rfl hd (by decide) (hW.grow hbA) ?_ hbA hst
      exact ⟨wx.heap.size, a9, c9, rfl, hb.size, World.alloc_heap_new _ _, hT.same (fun b h => ⟨h.1, Nat.lt_of_lt_of_le h.2 hbA.size⟩) (fun b h => hbA.block b h.2)⟩
    · intro p0 a wx hW hq1 hq2 hd hs ho hp
      refine ⟨rfl, ?_⟩
      obtain rfl : p0 = 0 := Nat.le_zero.1 (hq1 0 8 rfl (Or.inl rfl))
      have hb : Below W3.heap.size W3 wx := hW.1 rfl
      have h20 : a.tmps.getD 20 undef = lv := facts_at hp 4 20 (by kernel_rfl)
      have h23 := facts_at hp 7 23 (by kernel_rfl)
      obtain ⟨g, a9, c9, e23, hgz, hgh, hT⟩ := h23
      obtain ⟨i0, hi, hz0, hz1, hz2⟩ := info_parts' (show (Tryz.prog.info? 24).map (fun i => (i.zero, i.size, i.bytes)) = some (some (.agg #[.string ⟨#[]⟩, .slice none 0 0]), 2, 40) by kernel_rfl)
      obtain ⟨v9, w9, hr, hown, hgrow, _, hat⟩ := run_append_own_at (P := Tryz.prog) wx 0 52 57 24 i0 _ 2 40 Tryz.underlying52 hi hz0 hz1 hz2 rfl (by decide) lv L.length xs (own_grown' HO3.out hb) ⟨g, 0, none⟩ 1 1 [.string p, .slice a9 us.length c9] rfl (by
        intro jj u' hu'
        rcases jj with _ | _ | jj
        · cases hu'; exact cells_at hgh 0 _ rfl
        · cases hu'; exact cells_at hgh 1 _ rfl
        · simp at hu') (row2_one hT) (by have := HLen.out; unfold maxLen; omega) (by have := HLen.out; omega) (Nat.zero_le _)
      refine wp_append _ _ 52 rfl h20 e23 hr ?_
      have hlo := HOB.out
      have hzb := hb.size
      refine SteppedP.write (v := v9) rfl rfl (by decide) (hW.write (grown_stp hgrow (fun b e => HLL.out b e))) (fun d hd2 => ?_) ?_
      · refine ⟨a9, c9, hown, ?_, hT.same (fun b h => ⟨h.1, Nat.lt_of_lt_of_le h.2 hgrow.size, fun e => ?_⟩) (fun b h => hgrow.block b h.2 (fun e => by have := hlo b e.symm; have := h.1; omega))⟩
        · rcases hat with e | e
          · exact Or.inl e
          · exact Or.inr ⟨_, e, hzb⟩
        · rcases hat with e2 | e2
          · rw [e2] at e; have := hlo b e; have := h.1; omega
          · rw [e2] at e; cases e; have := h.2; omega
      · have hoff : ∀ b, W3.heap.size ≤ b → b < wx.heap.size → w9.heap[b]? = wx.heap[b]? := fun b h1 h2 => hgrow.block b h2 (fun e => by have := hlo b e.symm; omega)
        intro j u hj hw hf
        rcases j with _ | _ | _ | _ | _ | _ | _ | _ | _ | j
        · exact hf
        · exact hf
        · exact hf
        · exact hf
        · exact hf
        · exact hf
        · exact fAt_off hf hoff hgrow.size
        · exact fOneA_off hf hoff hgrow.size
        · exact absurd rfl hj
        · exact hf
  intro ac W4 hWW hDefers hTmps hOuter hf
  have f16 : ac.tmps.getD 16 undef = .pointer (some ⟨S, 0, none⟩) := facts_toR hf 0 16 (by decide) (by kernel_rfl)
  obtain ⟨u17, f17⟩ : ∃ u, ac.tmps.getD 17 undef = u := ⟨_, rfl⟩
  obtain ⟨u18, f18⟩ : ∃ u, ac.tmps.getD 18 undef = u := ⟨_, rfl⟩
  obtain ⟨u19, f19⟩ : ∃ u, ac.tmps.getD 19 undef = u := ⟨_, rfl⟩
  obtain ⟨u20, f20⟩ : ∃ u, ac.tmps.getD 20 undef = u := ⟨_, rfl⟩
  obtain ⟨u21, f21⟩ : ∃ u, ac.tmps.getD 21 undef = u := ⟨_, rfl⟩
  obtain ⟨u22, f22⟩ : ∃ u, ac.tmps.getD 22 undef = u := ⟨_, rfl⟩
  obtain ⟨u23, f23⟩ : ∃ u, ac.tmps.getD 23 undef = u := ⟨_, rfl⟩
  have g24 := facts_toR hf 8 24 (by decide) (by kernel_rfl)
  obtain ⟨v24, f24⟩ : ∃ u, ac.tmps.getD 24 undef = u := ⟨_, rfl⟩
  rw [f24] at g24
  obtain ⟨TT, DD⟩ := ac
  obtain rfl : DD = [] := hDefers
  have hE := slots_mergeR [false, false, false, false, false, false, false, false, false, false, false, false, false, false, false, false, true, true, true, true, true, true, true, true, true, false, false, false, false, false, false, false, false, false, false, false, false, false, false, false, false, false, false, false, false, false, false, false, false, false, false, false, false, false, false, false, false, false, false, false, false, false, false, false, false, false, false, false, false, false] 70 hTmps rfl (by kernel_rfl) hOuter
  simp only [mergeFrom, Nat.zero_add, Nat.reduceAdd, f16, f17, f18, f19, f20, f21, f22, f23, f24] at hE
  clear hst hf hOuter hTmps f16 f17 f18 f19 f20 f21 f22 f23 f24
  subst hE
  simp only [List.drop_succ_cons, List.drop_zero]
  obtain ⟨a9, c9, hown9, hat9, hT9⟩ := g24
  obtain ⟨a24, c24, e24⟩ := own_slice hown9
  subst e24
  have hs4 : Stp lab (fun l => l = .lst) W3 W4 := hWW.2
  have hS4 : W4.heap[S]? = some (.cells #[lv, .map (some m1), .map (some m2), .map (some m3), .pointer (some ⟨S, 0, none⟩)] 59 (0, 0)) := (hs4.block S (Nat.lt_of_lt_of_le HZw.out hzw) (by rw [HLS.out]; intro e; cases e)).trans HS3.out
  have y0 := cells_at hS4 0 _ rfl
  have f0 := frozen_of_row W4 S 0 _ _ hS4
  have HS4 := Lib.hid hS4
  have H4 := Lib.hid hs4
  have HOW9 := Lib.hid hown9
  have HT9 := Lib.hid hT9
  have HAT9 := Lib.hid hat9
  clear hS4 hs4 hWW hown9 hT9 hat9
  go_wp2_with fail
  obtain ⟨W5, hW5⟩ : ∃ W5, W4.setCell ⟨S, 0, none⟩ (.slice a24 (L.length + 1) c24) = W5 := ⟨_, rfl⟩
  have hS5 : W5.heap[S]? = some (.cells #[(.slice a24 (L.length + 1) c24), .map (some m1), .map (some m2), .map (some m3), .pointer (some ⟨S, 0, none⟩)] 59 (0, 0)) := by rw [← hW5]; exact heap_setCell_same W4 S 0 _ _ (.slice a24 (L.length + 1) c24) HS4.out
  have hset : Stp lab (fun l => l = .obj) W4 W5 := by rw [← hW5]; exact setCell_stp HLS.out
  have hset2 : ∀ b, b ≠ S → W5.heap[b]? = W4.heap[b]? := fun b hb => by rw [← hW5]; exact heap_setCell_other _ _ _ _ hb
  have hz45 : W4.heap.size ≤ W5.heap.size := hset.size
  try rw [hW5]
  clear hW5
  have hfree : ∀ b, w.heap.size ≤ b → lab b = .free := fun b hb => by
    cases e : lab b with
    | free => rfl
    | _ => have := (HMI.out b (by rw [e]; intro h; cases h)).2; omega
  have hs35 : Stp lab (fun l => l = .lst ∨ l = .obj) W3 W5 := (H4.out.imp (fun _ h => Or.inl h)).trans (hset.imp (fun _ h => Or.inr h)) (fun _ _ => rfl)
  have hsw5 : Stp lab (fun l => l = .lst ∨ l = .obj) w W5 := (Stp.of_below HBw.out).trans hs35 (fun _ _ => rfl)
  have hn : ∀ l, (l = Lbl.lst ∨ l = Lbl.obj) → Own l := by rintro l (h | h) <;> rw [h] <;> exact ⟨(by intro e; cases e), (by intro e; cases e)⟩
  obtain ⟨lab1, hlab1⟩ : ∃ lab1, newLab lab (.slice a24 (L.length + 1) c24) .lst = lab1 := ⟨_, rfl⟩
  have hat9 : (Value.slice a24 (L.length + 1) c24).ownBlock = lv.ownBlock ∨ ∃ g, (Value.slice a24 (L.length + 1) c24).ownBlock = some g ∧ w.heap.size ≤ g := by
    rcases HAT9.out with h | ⟨g, h, hg⟩
    · exact Or.inl h
    · exact Or.inr ⟨g, h, Nat.le_trans hzw hg⟩
  have hl1 : ∀ b, b < w.heap.size → lab1 b = lab b := by rw [← hlab1]; exact newLab_old HLL.out hat9
  have hob24 : ∀ b, (Value.slice a24 (L.length + 1) c24).ownBlock = some b → b ≠ S := by
    intro b e
    rcases hat9 with h | ⟨g, h, hg⟩
    · intro e2; have h1 := HLL.out b (h ▸ e); rw [e2, HLS.out] at h1; cases h1
    · rw [e] at h; cases h; have := HZw.out; omega
  have hown5 : W5.ownsRow 0 24 2 (.slice a24 (L.length + 1) c24) (L.length + 1) (xs ++ [.string p, .slice a9 us.length c9]) := by
    obtain ⟨q1, q2⟩ := HOW9.out
    refine ⟨q1, ?_⟩
    rcases q2 with q2 | ⟨g, cap', cur, e, q3, q4, q5⟩
    · exact Or.inl q2
    · exact Or.inr ⟨g, cap', cur, e, q3, (hset2 g (hob24 g (by rw [e]; rfl))).trans q4, q5⟩
  have hP1 : LstI W5 lab1 (.slice a24 (L.length + 1) c24) (L ++ [(p, us)]) := by
    rw [← hlab1]
    refine LstI.add (by rintro (h | h) <;> cases h) HO.out HF.out HLL.out hsw5 (HT9.out.same (fun b h => ⟨Nat.lt_of_lt_of_le h.2.1 hz45, ?_⟩) (fun b h => hset2 b (by have := HZw.out; have := h.1; omega))) hown5 hat9
    unfold newLab
    rw [if_neg h.2.2]
    exact hfree b (Nat.le_trans hzw h.1)
  have hP2 : NumI W5 m1 L.length L := HP2.out.step hsw5 (by rw [HL1.out]; rintro (h | h) <;> cases h)
  have hP3 : SigI W5 lab1 m2 L.length L := HP3.out.step hsw5 (by rw [HL2.out]; rintro (h | h) <;> cases h) (by rintro g (h | h) <;> cases h) hl1
  have hP4 : ArgI W5 lab1 m3 n3 (fun p => ix (qP p) L) := HP4.out.step hsw5 (by rw [HL3.out]; rintro (h | h) <;> cases h) (by rintro g (h | h) <;> cases h) hl1
  have hT5 : Tab10 W5 := Tab10.stp HI.out (hsw5.imp hn)
  have hg5 : W5.heap[gb]? = some (.cells #[.string p, .int .i64 us.length] 41 (0, 0)) := (hs35.block gb (Array.getElem?_eq_some_iff.1 HG3.out).1 (by rw [hfree gb (Nat.le_trans HB1.out.size HGZ.out)]; rintro (h | h) <;> cases h)).trans HG3.out
  have hx5 : W5.heap[w.heap.size]? = some (.cells #[.string p, .slice av us.length cap] 24 (0, 0)) := (hs35.block w.heap.size (Array.getElem?_eq_some_iff.1 HX3.out).1 (by rw [hfree _ (Nat.le_refl _)]; rintro (h | h) <;> cases h)).trans HX3.out
  have hA5 : AtS (fun b => b < w.heap.size ∧ lab b = .free) W5 (.string p) (.slice av us.length cap) (p, us) := HAT.out.same (fun _ h => h) (fun b h => hsw5.block b h.1 (by rw [h.2]; rintro (e | e) <;> cases e))
  have hfr1 : ∀ b, lab1 b ≠ .free → B ≤ b ∧ b < W5.heap.size := by
    intro b hb
    rw [← hlab1] at hb
    rcases newLab_free hb with h | h
    · refine ⟨?_, (own_block hown5 b h).2⟩
      rcases hat9 with e | ⟨g, e, hg⟩
      · exact (HMI.out b (by rw [HLL.out b (e ▸ h)]; intro e; cases e)).1
      · rw [h] at e; cases e; have := (HMI.out S (by rw [HLS.out]; intro e; cases e)); omega
    · have := HMI.out b h
      exact ⟨this.1, by have := hsw5.size; omega⟩
  have hnb : lab1 gb = .free ∧ lab1 w.heap.size = .free := by
    have hz3 : W3.heap.size ≤ W3.heap.size := Nat.le_refl _
    have h1 : gb < W3.heap.size := (Array.getElem?_eq_some_iff.1 HG3.out).1
    have h2 : w.heap.size < W3.heap.size := (Array.getElem?_eq_some_iff.1 HX3.out).1
    have hne : ∀ b, w.heap.size ≤ b → b < W3.heap.size → lab1 b = .free := fun b q1 q2 => by
      rw [← hlab1]
      unfold newLab
      rw [if_neg, hfree b q1]
      intro e
      rcases HAT9.out with h | ⟨g, h, hg⟩
      · have := HOB.out b (h ▸ e); omega
      · rw [h] at e; cases e; omega
    exact ⟨hne gb (Nat.le_trans HB1.out.size HGZ.out) h1, hne _ (Nat.le_refl _) h2⟩
  obtain ⟨k0, kS, k1, k2, k3⟩ : (∀ b, lab b ≠ .free → b < w.heap.size) ∧ lab1 S = .obj ∧ lab1 m1 = .num ∧ lab1 m2 = .sgm ∧ lab1 m3 = .arm := by
    have hlt : ∀ b l, lab b = l → l ≠ .free → lab1 b = l := fun b l h hl => by rw [hl1 b (HMI.out b (by rw [h]; exact hl)).2]; exact h
    exact ⟨fun b hb => (HMI.out b hb).2, hlt S _ HLS.out (by intro e; cases e), hlt m1 _ HL1.out (by intro e; cases e), hlt m2 _ HL2.out (by intro e; cases e), hlt m3 _ HL3.out (by intro e; cases e)⟩
  have HW5 := Lib.hid (hsw5.imp hn)
  have HP1 := Lib.hid hP1
  have HP2 := Lib.hid hP2
  have HP3 := Lib.hid hP3
  have HP4 := Lib.hid hP4
  have HT5 := Lib.hid hT5
  have HG5 := Lib.hid hg5
  have HX5 := Lib.hid hx5
  have HA5 := Lib.hid hA5
  have HS5 := Lib.hid hS5
  have HFR := Lib.hid hfr1
  have HNB := Lib.hid hnb
  have HK := Lib.hid (show lab1 S = .obj ∧ lab1 m1 = .num ∧ lab1 m2 = .sgm ∧ lab1 m3 = .arm from ⟨kS, k1, k2, k3⟩)
  have HN1 := Lib.hid hl1
  clear hS5 hset hset2 hz45 hfree hs35 hsw5 hn hlab1 hat9 hl1 hob24 hown5 hP1 hP2 hP3 hP4 hT5 hg5 hx5 hA5 hfr1 hnb k0 kS k1 k2 k3 y0 f0 HS4 H4 HOW9 HT9 HAT9 HS3 HX3 HG3 HA3 HO3 HO HF HX1 HS1 HB3 HBw hzw
  refine HK2.out _ _ ?_
  clear HK2
  refine wp_seq_k fun K3 hK3 => ?_
  have HK3 := Lib.hid hK3
  clear hK3
  obtain ⟨TB, hTB⟩ : ∃ TB, atB (p, us) = TB := ⟨_, rfl⟩
  have HTB := Lib.hid hTB
  have hzw : w.heap.size ≤ W5.heap.size := HW5.out.size
  clear hTB
  have hst := @FL_grow [fV (.pointer (some ⟨S, 0, none⟩)), fV (.pointer (some ⟨S, 0, none⟩)), fV (.pointer (some ⟨S, 1, none⟩)), fV (.map (some m1)), fV (.agg #[.string p, .slice av us.length cap]), fV (.string TB), fV (.int .i64 L.length)] (by
    intro F hF
    simp only [List.mem_cons, List.not_mem_nil, or_false] at hF
    rcases hF with rfl | rfl | rfl | rfl | rfl | rfl | rfl <;> first | exact fV_stays _)
  refine wp_region_grow_tail (by kernel_rfl) 7 (FL [fV (.pointer (some ⟨S, 0, none⟩)), fV (.pointer (some ⟨S, 0, none⟩)), fV (.pointer (some ⟨S, 1, none⟩)), fV (.map (some m1)), fV (.agg #[.string p, .slice av us.length cap]), fV (.string TB), fV (.int .i64 L.length)]) hst (by kernel_rfl) (by kernel_rfl) (steps_to ?_) ?_
  · simp only [List.take_succ_cons, List.take_zero]
    refine ⟨?_, ?_, ?_, ?_, ?_, ?_, ?_, trivial⟩
    · intro a wx hb hd hs ho hp
      refine ⟨rfl, ?_⟩
      have h0 : a.tmps.getD 0 undef = .pointer (some ⟨S, 0, none⟩) := (ho 0 (by kernel_rfl)).trans rfl
      unfold Oper.wp
      go_simp
      exact Stepped.at (v := .pointer (some ⟨S, 0, none⟩)) (by first | rfl | simp) hd (Below.refl _ _) rfl
    · intro a wx hb hd hs ho hp
      refine ⟨rfl, ?_⟩
      have h27 : a.tmps.getD 27 undef = .pointer (some ⟨S, 0, none⟩) := facts_at hp 0 27 (by kernel_rfl)
      unfold Oper.wp
      go_simp
      exact Stepped.at (v := .pointer (some ⟨S, 0, none⟩)) (by first | rfl | simp) hd (Below.refl _ _) rfl
    · intro a wx hb hd hs ho hp
      refine ⟨rfl, ?_⟩
      have h28 : a.tmps.getD 28 undef = .pointer (some ⟨S, 0, none⟩) := facts_at hp 1 28 (by kernel_rfl)
      unfold Oper.wp
      go_simp
      exact Stepped.at (v := .pointer (some ⟨S, 1, none⟩)) (by first | rfl | simp) hd (Below.refl _ _) rfl
    · intro a wx hb hd hs ho hp
      refine ⟨rfl, ?_⟩
      have h29 : a.tmps.getD 29 undef = .pointer (some ⟨S, 1, none⟩) := facts_at hp 2 29 (by kernel_rfl)
      have hx := (hb.block S (Array.getElem?_eq_some_iff.1 HS5.out).1).trans HS5.out
      have x1 := cells_at hx 1 _ rfl
      unfold Oper.wp
      go_simp
      exact Stepped.at (v := .map (some m1)) (by first | rfl | simp) hd (Below.refl _ _) rfl
    · intro a wx hb hd hs ho hp
      refine ⟨rfl, ?_⟩
      have h3 : a.tmps.getD 3 undef = .pointer (some ⟨w.heap.size, 0, none⟩) := (ho 3 (by kernel_rfl)).trans rfl
      have hx := (hb.block w.heap.size (Array.getElem?_eq_some_iff.1 HX5.out).1).trans HX5.out
      have s3 := qslot_of (hs.trans (rfl : _ = 70)) (by decide) h3
      have x0 := cells_at hx 0 _ rfl
      have x1 := cells_at hx 1 _ rfl
      unfold Oper.wp
      go_simp
      exact Stepped.at (v := .agg #[.string p, .slice av us.length cap]) (by first | rfl | simp) hd (Below.refl _ _) rfl
    · intro a wx hb hd hs ho hp
      refine ⟨rfl, ?_⟩
      have h31 : a.tmps.getD 31 undef = .agg #[.string p, .slice av us.length cap] := facts_at hp 4 31 (by kernel_rfl)
      have hx := text_any (p, us) av cap _ wx (HA5.out.same (S' := fun b => b < w.heap.size) (fun b h => h.1) (fun b h => hb.block b (by omega))) (fun b h => by have := hb.size; omega) HC.out HV.out (HT5.out.below hb)
      rw [HTB.out] at hx
      unfold Oper.wp
      go_simp
      refine (hx).mono ?_
      rintro e w9 ⟨rfl, hb9⟩
      exact Stepped.at (v := .string TB) rfl hd (hb9) rfl
    · intro a wx hb hd hs ho hp
      refine ⟨rfl, ?_⟩
      have h4 : a.tmps.getD 4 undef = .int .i64 L.length := (ho 4 (by kernel_rfl)).trans rfl
      unfold Oper.wp
      go_simp
      exact Stepped.at (v := .int .i64 L.length) (by first | rfl | simp) hd (Below.refl _ _) rfl
  intro ac W6 hBelow hDefers hTmps hOuter hf
  obtain ⟨u27, f27⟩ : ∃ u, ac.tmps.getD 27 undef = u := ⟨_, rfl⟩
  obtain ⟨u28, f28⟩ : ∃ u, ac.tmps.getD 28 undef = u := ⟨_, rfl⟩
  obtain ⟨u29, f29⟩ : ∃ u, ac.tmps.getD 29 undef = u := ⟨_, rfl⟩
  have f30 : ac.tmps.getD 30 undef = .map (some m1) := facts_to hf 3 30 (by decide) (by kernel_rfl)
  obtain ⟨u31, f31⟩ : ∃ u, ac.tmps.getD 31 undef = u := ⟨_, rfl⟩
  have f32 : ac.tmps.getD 32 undef = .string TB := facts_to hf 5 32 (by decide) (by kernel_rfl)
  have f33 : ac.tmps.getD 33 undef = .int .i64 L.length := facts_to hf 6 33 (by decide) (by kernel_rfl)
  obtain ⟨TT, DD⟩ := ac
  obtain rfl : DD = [] := hDefers
  have hE := slots_mergeR [false, false, false, false, false, false, false, false, false, false, false, false, false, false, false, false, false, false, false, false, false, false, false, false, false, false, false, true, true, true, true, true, true, true, false, false, false, false, false, false, false, false, false, false, false, false, false, false, false, false, false, false, false, false, false, false, false, false, false, false, false, false, false, false, false, false, false, false, false, false] 70 hTmps rfl (by kernel_rfl) hOuter
  simp only [mergeFrom, Nat.zero_add, Nat.reduceAdd, f27, f28, f29, f30, f31, f32, f33] at hE
  clear hst hf hOuter hTmps f27 f28 f29 f30 f31 f32 f33
  subst hE
  simp only [List.drop_succ_cons, List.drop_zero]
  obtain ⟨D1, hown1, hd1⟩ := HP2.out
  have hown6 := ownsMap_same hown1 (hBelow.block m1 hown1.lt)
  have HOWN6 := Lib.hid hown6
  have hts : TB.size ≤ maxLen := by
    have := atB_size HA5.out (fun b h => by have := h.1; omega) HC.out HV.out
    rw [HTB.out] at this
    unfold maxLen; omega
  have hkey : keyOf Tryz.prog 9 (.string TB) = some (.string (strB TB)) := WideMaps.keyOf_string_mk Tryz.underlying9 hts
  have hval : plainElem (H := Unit) Tryz.prog 3 (.int .i64 (L.length : Int)) = some (.lit (.int .i64 L.length), []) := plainElem_int Tryz.underlying3 (i64_len' (by have := HLen.out; unfold maxLen; omega))
  have HB6 := Lib.hid hBelow
  have HD1 := Lib.hid hd1
  clear hown1 hown6 hBelow hd1
  go_wp2_with (at_mapUpdate; refine wpList_mapUpdate_own _ rfl _ _ _ 53 rfl 9 3 (string_keyed Tryz.underlying9) Tryz.underlying53 _ m1 L.length D1 rfl HOWN6.out (by have := HLen.out; unfold maxLen; omega) _ _ (.string (strB TB)) rfl rfl hkey (.lit (.int .i64 L.length)) [] hval ?_)
  intro W7 hown7 hg7
  have hs57 : Stp lab1 (fun l => l = .num) W5 W7 := (Stp.of_below HB6.out).trans (Stp.of_grown hg7 (fun b e _ => by cases e; exact HK.out.2.1)) (fun _ _ => rfl)
  have hins5 : Ins w W5 lab lab1 B S gb p us av cap (.slice a24 (L.length + 1) c24) m1 m2 m3 L := ⟨HW5.out, HS5.out, HG5.out, HX5.out, HA5.out, HT5.out, HP1.out, HFR.out, HNB.out, HK.out, HN1.out⟩
  have hX7 : ∀ l, l = Lbl.num → Own l ∧ l ≠ .obj ∧ l ≠ .lst := by rintro l rfl; exact ⟨⟨(by intro e; cases e), (by intro e; cases e)⟩, (by intro e; cases e), (by intro e; cases e)⟩
  have hins7 := hins5.step HI.out hs57 hX7 (fun _ _ => rfl) (fun b hb => ⟨(HFR.out b hb).1, Nat.lt_of_lt_of_le (HFR.out b hb).2 hs57.size⟩)
  have hP2 : NumI W7 m1 (L.length + 1) (L ++ [(p, us)]) := ⟨_, hown7, by rw [List.map_append, List.map_cons, List.map_nil, HTB.out]; exact HD1.out.put TB _⟩
  have hP3 := HP3.out.step hs57 (by rw [HK.out.2.2.1]; intro e; cases e) (by intro g e; cases e) (fun _ _ => rfl)
  have hP4 := HP4.out.step hs57 (by rw [HK.out.2.2.2]; intro e; cases e) (by intro g e; cases e) (fun _ _ => rfl)
  have HINS := Lib.hid hins7
  have HP2 := Lib.hid hP2
  have HP3 := Lib.hid hP3
  have HP4 := Lib.hid hP4
  clear hown7 hg7 hs57 hins5 hX7 hins7 hP2 hP3 hP4 HB6 HD1 HOWN6 HW5 HS5 HG5 HX5 HA5 HT5 HP1 HFR HNB HK HN1 hkey hval hts
  go_wp2_with fail
  refine HK3.out _ _ ?_
  clear HK3
  refine wp_seq_k fun K4 hK4 => ?_
  have HK4 := Lib.hid hK4
  clear hK4
  have hgok : SigOk (p, us.length) := by
    obtain ⟨_, q1, _, _, _, q2, _⟩ := HINS.out.at'
    exact ⟨q1, q2⟩
  obtain ⟨D2, val2, ho2, hd2, hv2⟩ := HP3.out
  obtain ⟨c1, q2, q3⟩ := hv2 (p, us.length) hgok
  obtain ⟨n0, hn0⟩ : ∃ n0, ix (qS (p, us.length)) L = n0 := ⟨_, rfl⟩
  rw [hn0] at q2
  have hlen0 : n0.length ≤ 2000 := by rw [← hn0]; have := ix_len (qS (p, us.length)) L; omega
  obtain ⟨a0, c0, e0⟩ := own_slice q2
  rw [e0] at q2 q3 c1
  have HC1 := Lib.hid c1
  have HQ2 := Lib.hid q2
  have HQ3 := Lib.hid q3
  have HO2 := Lib.hid ho2
  have HD2 := Lib.hid hd2
  have HV2 := Lib.hid hv2
  have HN0 := Lib.hid hn0
  have HGO := Lib.hid hgok
  have hm2 : m2 < W7.heap.size := ho2.lt
  have hzw7 : w.heap.size ≤ W7.heap.size := HINS.out.stp.size
  clear c1 q2 q3 ho2 hd2 hv2 hn0 hgok e0 HP3
  have hst := @FL_grow [fV (.pointer (some ⟨S, 0, none⟩)), fV (.pointer (some ⟨S, 0, none⟩)), fV (.pointer (some ⟨S, 2, none⟩)), fV (.map (some m2)), fV (.agg #[.string p, .int .i64 us.length]), fV (.int .i64 L.length), fOne W7.heap.size (.int .i64 L.length) 3, fEnt 54 41 m2 L.length D2 (sigK (p, us.length)) (.slice a0 n0.length c0), fV (.slice a0 n0.length c0), fRow W7.heap.size (.slice a0 n0.length c0) 3 1 (n0.length + 1) ((n0.map fun i : Nat => Value.int .i64 (i : Int)) ++ [.int .i64 L.length]), fSt 54 41 m2 L.length D2 (sigK (p, us.length))] (by
    intro F hF
    simp only [List.mem_cons, List.not_mem_nil, or_false] at hF
    rcases hF with rfl | rfl | rfl | rfl | rfl | rfl | rfl | rfl | rfl | rfl | rfl <;> first | exact fV_stays _ | exact fOne_stays _ _ _ | exact fEnt_stays _ _ _ _ _ _ _ | exact fRow_stays _ _ _ _ _ _ | exact fSt_stays _ _ _ _ _ _)
  refine wp_region_phase_tail (by kernel_rfl) 11 [7, 9] (WQ lab1 (fun l => l = .sgm) (fun l => l = .sgm ∨ l = .rowS (p, us.length)) W7) (FL [fV (.pointer (some ⟨S, 0, none⟩)), fV (.pointer (some ⟨S, 0, none⟩)), fV (.pointer (some ⟨S, 2, none⟩)), fV (.map (some m2)), fV (.agg #[.string p, .int .i64 us.length]), fV (.int .i64 L.length), fOne W7.heap.size (.int .i64 L.length) 3, fEnt 54 41 m2 L.length D2 (sigK (p, us.length)) (.slice a0 n0.length c0), fV (.slice a0 n0.length c0), fRow W7.heap.size (.slice a0 n0.length c0) 3 1 (n0.length + 1) ((n0.map fun i : Nat => Value.int .i64 (i : Int)) ++ [.int .i64 L.length]), fSt 54 41 m2 L.length D2 (sigK (p, us.length))]) (by kernel_rfl) (by kernel_rfl) (by decide) (by kernel_rfl) (WQ.start) (steps_Q ?_) ?_
  · simp only [List.take_succ_cons, List.take_zero]
    refine ⟨?_, ?_, ?_, ?_, ?_, ?_, ?_, ?_, ?_, ?_, ?_, trivial⟩
    · intro p0 a wx hW hq1 hq2 hd hs ho hp
      refine ⟨rfl, ?_⟩
      have h0 : a.tmps.getD 0 undef = .pointer (some ⟨S, 0, none⟩) := (ho 0 (by kernel_rfl)).trans rfl
      unfold Oper.wp
      go_simp
      exact SteppedP.grow (v := .pointer (some ⟨S, 0, none⟩)) (by first | rfl | simp) hd (by decide) (hW) rfl (Below.refl _ _) hst
    · intro p0 a wx hW hq1 hq2 hd hs ho hp
      refine ⟨rfl, ?_⟩
      have h34 : a.tmps.getD 34 undef = .pointer (some ⟨S, 0, none⟩) := facts_at hp 0 34 (by kernel_rfl)
      unfold Oper.wp
      go_simp
      exact SteppedP.grow (v := .pointer (some ⟨S, 0, none⟩)) (by first | rfl | simp) hd (by decide) (hW) rfl (Below.refl _ _) hst
    · intro p0 a wx hW hq1 hq2 hd hs ho hp
      refine ⟨rfl, ?_⟩
      have h35 : a.tmps.getD 35 undef = .pointer (some ⟨S, 0, none⟩) := facts_at hp 1 35 (by kernel_rfl)
      unfold Oper.wp
      go_simp
      exact SteppedP.grow (v := .pointer (some ⟨S, 2, none⟩)) (by first | rfl | simp) hd (by decide) (hW) rfl (Below.refl _ _) hst
    · intro p0 a wx hW hq1 hq2 hd hs ho hp
      refine ⟨rfl, ?_⟩
      obtain rfl : p0 = 0 := Nat.le_zero.1 (hq1 0 7 rfl (Or.inr (by kernel_rfl)))
      have hb : Below W7.heap.size W7 wx := hW.1 rfl
      have h36 : a.tmps.getD 36 undef = .pointer (some ⟨S, 2, none⟩) := facts_at hp 2 36 (by kernel_rfl)
      have hx := (hb.block S (Array.getElem?_eq_some_iff.1 HINS.out.row).1).trans HINS.out.row
      have x2 := cells_at hx 2 _ rfl
      unfold Oper.wp
      go_simp
      exact SteppedP.grow (v := .map (some m2)) (by first | rfl | simp) hd (by decide) (hW) rfl (Below.refl _ _) hst
    · intro p0 a wx hW hq1 hq2 hd hs ho hp
      refine ⟨rfl, ?_⟩
      obtain rfl : p0 = 0 := Nat.le_zero.1 (hq1 0 7 rfl (Or.inr (by kernel_rfl)))
      have hb : Below W7.heap.size W7 wx := hW.1 rfl
      have h5 : a.tmps.getD 5 undef = .pointer (some ⟨gb, 0, none⟩) := (ho 5 (by kernel_rfl)).trans rfl
      have hx := (hb.block gb (Array.getElem?_eq_some_iff.1 HINS.out.g).1).trans HINS.out.g
      have s5 := qslot_of (hs.trans (rfl : _ = 70)) (by decide) h5
      have x0 := cells_at hx 0 _ rfl
      have x1 := cells_at hx 1 _ rfl
      unfold Oper.wp
      go_simp
      exact SteppedP.grow (v := .agg #[.string p, .int .i64 us.length]) (by first | rfl | simp) hd (by decide) (hW) rfl (Below.refl _ _) hst
    · intro p0 a wx hW hq1 hq2 hd hs ho hp
      refine ⟨rfl, ?_⟩
      have h4 : a.tmps.getD 4 undef = .int .i64 L.length := (ho 4 (by kernel_rfl)).trans rfl
      unfold Oper.wp
      go_simp
      exact SteppedP.grow (v := .int .i64 L.length) (by first | rfl | simp) hd (by decide) (hW) rfl (Below.refl _ _) hst
    · intro p0 a wx hW hq1 hq2 hd hs ho hp
      refine ⟨rfl, ?_⟩
      obtain rfl : p0 = 0 := Nat.le_zero.1 (hq1 0 7 rfl (Or.inr (by kernel_rfl)))
      have hb : Below W7.heap.size W7 wx := hW.1 rfl
      have h40 : a.tmps.getD 40 undef = .int .i64 L.length := facts_at hp 5 40 (by kernel_rfl)
      have s40 := qslot_of (hs.trans (rfl : _ = 70)) (by decide) h40
      have hbA : Below wx.heap.size wx (wx.alloc (.cells #[.int .i64 L.length] 3)) := (Below.refl _ _).alloc (Nat.le_refl _) _
      unfold Oper.wp
      go_simp
      refine SteppedP.grow (v := .slice (some ⟨wx.heap.size, 0, none⟩) 1 1) rfl hd (by decide) (hW.grow hbA) ?_ hbA hst
      exact ⟨wx.heap.size, rfl, hb.size, World.alloc_heap_new _ _⟩
    · intro p0 a wx hW hq1 hq2 hd hs ho hp
      refine ⟨rfl, ?_⟩
      obtain rfl : p0 = 0 := Nat.le_zero.1 (hq1 0 7 rfl (Or.inl rfl))
      have hb : Below W7.heap.size W7 wx := hW.1 rfl
      have h37 : a.tmps.getD 37 undef = .map (some m2) := facts_at hp 3 37 (by kernel_rfl)
      have h38 : a.tmps.getD 38 undef = .agg #[.string p, .int .i64 us.length] := facts_at hp 4 38 (by kernel_rfl)
      obtain ⟨st, es1, cl1, hrun, hgood⟩ := entry_own (P := Tryz.prog) (t := 54) sig_law Tryz.underlying54 zero_ints (ownsMap_same HO2.out (hb.block m2 (HO2.out.lt))) (by have := HLen.out; unfold maxLen; omega) (sigK_of (p, us.length) HGO.out) HC1.out (own_SlV HQ2.out)
      have hml := (Array.getElem?_eq_some_iff.1 ((hb.block m2 (HO2.out.lt)).trans (Array.getElem?_eq_getElem (HO2.out.lt)))).1
      unfold Oper.wp
      go_simp
      refine SteppedP.write (v := .tuple #[.slice a0 n0.length c0, goInt st]) rfl hd (by decide) (hW.write0 (setBlock_stp HINS.out.k.2.2.1) (fun _ h => Or.inl h)) (fun d hd2 => ?_) ?_
      · exact ⟨st, es1, cl1, rfl, by simp [setBlock, hml], hgood⟩
      · have hoff : ∀ b, W7.heap.size ≤ b → b < wx.heap.size → (setBlock wx m2 (.map es1 cl1)).heap[b]? = wx.heap[b]? := fun b h1 h2 => (setBlock_grown wx m2 _).block b h2 (fun e => by cases e; have := HO2.out.lt; omega)
        intro j u hj hw hf
        rcases j with _ | _ | _ | _ | _ | _ | _ | _ | _ | _ | _ | j
        · exact hf
        · exact hf
        · exact hf
        · exact hf
        · exact hf
        · exact hf
        · exact fOne_off hf hoff
        · exact absurd rfl hj
        · exact hf
        · exact absurd (hw.symm.trans (show waitsT _ _ _ _ = true by kernel_rfl)) (by decide)
        · exact absurd (hw.symm.trans (show waitsT _ _ _ _ = true by kernel_rfl)) (by decide)
        · exact hf
    · intro p0 a wx hW hq1 hq2 hd hs ho hp
      refine ⟨rfl, ?_⟩
      have h42 := facts_at hp 7 42 (by kernel_rfl)
      obtain ⟨st, es1, cl1, e42, _, _⟩ := h42
      have h42 : a.tmps.getD 42 undef = .tuple #[.slice a0 n0.length c0, goInt st] := e42
      clear e42
      unfold Oper.wp
      go_simp
      exact SteppedP.grow (v := .slice a0 n0.length c0) (by first | rfl | simp) hd (by decide) hW rfl (Below.refl _ _) hst
    · intro p0 a wx hW hq1 hq2 hd hs ho hp
      refine ⟨rfl, ?_⟩
      have hpp := hq1
      have hp1 : p0 = 1 := by have h1 := hq1 1 9 rfl (Or.inl rfl); have h2 := hq2 0 7 rfl (by kernel_rfl); omega
      subst hp1
      have hs1 : Stp lab1 (fun l => l = .sgm) W7 wx := hW.2.1 (by decide)
      have h39 : a.tmps.getD 39 undef = .slice a0 n0.length c0 := facts_at hp 8 39 (by kernel_rfl)
      have h41 := facts_at hp 6 41 (by kernel_rfl)
      obtain ⟨g, e41, hgz, hgh⟩ := h41
      have hq2x := own_stp hs1 HQ2.out (fun b e => by rw [HQ3.out b e]; intro h; cases h)
      have hlo : ∀ b, (Value.ownBlock (.slice a0 n0.length c0)) = some b → b < W7.heap.size := fun b e => (own_block HQ2.out b e).2
      obtain ⟨i0, hi, hz0, hz1, hz2⟩ := info_parts' (show (Tryz.prog.info? 3).map (fun i => (i.zero, i.size, i.bytes)) = some (some (.int .i64 0), 1, 8) by kernel_rfl)
      obtain ⟨v9, w9, hr, hown, hgrow, _, hat⟩ := run_append_own_at (P := Tryz.prog) wx 0 85 85 3 i0 _ 1 8 Tryz.underlying85 hi hz0 hz1 hz2 rfl (by decide) (.slice a0 n0.length c0) n0.length ((n0.map fun i : Nat => Value.int .i64 (i : Int))) hq2x ⟨g, 0, none⟩ 1 1 [.int .i64 L.length] rfl (by
        intro jj u' hu'
        rcases jj with _ | jj
        · cases hu'; exact cells_at hgh 0 _ rfl
        · simp at hu') (by simp [Value.oneCell']) (by unfold maxLen; omega) (by omega) (Nat.zero_le _)
      refine wp_append _ _ 85 rfl h39 e41 hr ?_
      have hzb := hs1.size
      refine SteppedP.write (v := v9) rfl rfl (by decide) (hW.write1 (grown_stp hgrow (fun b e => Or.inr (HQ3.out b e)))) (fun d hd2 => ⟨hown, ?_⟩) ?_
      · rcases hat with e | e
        · exact Or.inl e
        · exact Or.inr ⟨_, e, hzb⟩
      · have hoff : ∀ b, W7.heap.size ≤ b → b < wx.heap.size → w9.heap[b]? = wx.heap[b]? := fun b h1 h2 => hgrow.block b h2 (fun e => by have := hlo b e.symm; omega)
        have hoffm : w9.heap[m2]? = wx.heap[m2]? := hgrow.block m2 (by have := HO2.out.lt; omega) (fun e => by have h1 := HQ3.out m2 e.symm; rw [HINS.out.k.2.2.1] at h1; cases h1)
        intro j u hj hw hf
        rcases j with _ | _ | _ | _ | _ | _ | _ | _ | _ | _ | _ | j
        · exact hf
        · exact hf
        · exact hf
        · exact hf
        · exact hf
        · exact hf
        · exact fOne_off hf hoff
        · exact fEnt_off hf hoffm
        · exact hf
        · exact absurd rfl hj
        · exact fSt_off hf hoffm
        · exact hf
    · intro p0 a wx hW hq1 hq2 hd hs ho hp
      refine ⟨rfl, ?_⟩
      have h42 := facts_at hp 7 42 (by kernel_rfl)
      obtain ⟨st, es1, cl1, e42, e43, e44⟩ := h42
      have h42 : a.tmps.getD 42 undef = .tuple #[.slice a0 n0.length c0, goInt st] := e42
      clear e42
      unfold Oper.wp
      go_simp
      exact SteppedP.grow (v := goInt st) (by first | rfl | simp) hd (by decide) hW ⟨st, es1, cl1, rfl, e43, e44⟩ (Below.refl _ _) hst
  intro ac W8 hWW hDefers hTmps hOuter hf
  obtain ⟨u34, f34⟩ : ∃ u, ac.tmps.getD 34 undef = u := ⟨_, rfl⟩
  obtain ⟨u35, f35⟩ : ∃ u, ac.tmps.getD 35 undef = u := ⟨_, rfl⟩
  obtain ⟨u36, f36⟩ : ∃ u, ac.tmps.getD 36 undef = u := ⟨_, rfl⟩
  have f37 : ac.tmps.getD 37 undef = .map (some m2) := facts_toR hf 3 37 (by decide) (by kernel_rfl)
  obtain ⟨u38, f38⟩ : ∃ u, ac.tmps.getD 38 undef = u := ⟨_, rfl⟩
  obtain ⟨u40, f40⟩ : ∃ u, ac.tmps.getD 40 undef = u := ⟨_, rfl⟩
  obtain ⟨u41, f41⟩ : ∃ u, ac.tmps.getD 41 undef = u := ⟨_, rfl⟩
  obtain ⟨u42, f42⟩ : ∃ u, ac.tmps.getD 42 undef = u := ⟨_, rfl⟩
  obtain ⟨u39, f39⟩ : ∃ u, ac.tmps.getD 39 undef = u := ⟨_, rfl⟩
  have g43 := facts_toR hf 9 43 (by decide) (by kernel_rfl)
  obtain ⟨v43, f43⟩ : ∃ u, ac.tmps.getD 43 undef = u := ⟨_, rfl⟩
  rw [f43] at g43
  have g44 := facts_toR hf 10 44 (by decide) (by kernel_rfl)
  obtain ⟨v44, f44⟩ : ∃ u, ac.tmps.getD 44 undef = u := ⟨_, rfl⟩
  rw [f44] at g44
  obtain ⟨TT, DD⟩ := ac
  obtain rfl : DD = [] := hDefers
  have hE := slots_mergeR [false, false, false, false, false, false, false, false, false, false, false, false, false, false, false, false, false, false, false, false, false, false, false, false, false, false, false, false, false, false, false, false, false, false, true, true, true, true, true, true, true, true, true, true, true, false, false, false, false, false, false, false, false, false, false, false, false, false, false, false, false, false, false, false, false, false, false, false, false, false] 70 hTmps rfl (by kernel_rfl) hOuter
  simp only [mergeFrom, Nat.zero_add, Nat.reduceAdd, f34, f35, f36, f37, f38, f40, f41, f42, f39, f43, f44] at hE
  clear hst hf hOuter hTmps f34 f35 f36 f37 f38 f40 f41 f42 f39 f43 f44
  subst hE
  simp only [List.drop_succ_cons, List.drop_zero]
  obtain ⟨st, es1, cl1, rfl, hm8, hgood⟩ := g44
  obtain ⟨hr8, hat8⟩ := g43
  obtain ⟨a43, c43, e43⟩ := own_slice hr8
  subst e43
  obtain ⟨W9, hrun9, hown9, hg9⟩ := hgood W8 (.slice a43 (n0.length + 1) c43) hm8 (own_SlV hr8)
  have hs78 : Stp lab1 (fun l => l = Lbl.sgm ∨ l = Lbl.rowS (p, us.length)) W7 W8 := hWW.2.2
  have hs79 : Stp lab1 (fun l => l = Lbl.sgm ∨ l = Lbl.rowS (p, us.length)) W7 W9 := hs78.trans (Stp.of_grown hg9 (fun b e _ => by cases e; exact Or.inl HINS.out.k.2.2.1)) (fun _ _ => rfl)
  have hvm : (Value.slice a43 (n0.length + 1) c43).ownBlock ≠ some m2 := by
    intro e
    rcases hat8 with h | ⟨g, h, hg⟩
    · have h1 := HQ3.out m2 (h ▸ e); rw [HINS.out.k.2.2.1] at h1; cases h1
    · rw [e] at h; cases h; omega
  have hr9 := IntR.cast (own_keep hr8 hg9 hvm)
  have hl2 := newLab_old (l := Lbl.rowS (p, us.length)) (n := W7.heap.size) HQ3.out hat8
  obtain ⟨lab2, hlab2⟩ : ∃ x, newLab lab1 (.slice a43 (n0.length + 1) c43) (Lbl.rowS (p, us.length)) = x := ⟨_, rfl⟩
  have hown2 : ∀ b, (Value.slice a43 (n0.length + 1) c43).ownBlock = some b → lab2 b = Lbl.rowS (p, us.length) := by rw [← hlab2]; exact newLab_own
  have hBW : B ≤ W7.heap.size := by have := (HINS.out.fr S (by rw [HINS.out.k.1]; intro e; cases e)); omega
  have hfr2 := newLab_frees (l := Lbl.rowS (p, us.length)) (W' := W9) HINS.out.fr HQ3.out (by intro e; cases e) hat8 (fun b e => (own_block hr9 b e).2) hs79.size hBW
  rw [hlab2] at hl2 hfr2
  have hXX : ∀ l, (l = Lbl.sgm ∨ l = Lbl.rowS (p, us.length)) → Own l ∧ l ≠ .obj ∧ l ≠ .lst := by
    rintro l (rfl | rfl)
    · exact ⟨⟨(by intro e; cases e), (by intro e; cases e)⟩, (by intro e; cases e), (by intro e; cases e)⟩
    · exact ⟨⟨(by intro e; cases e), (by intro e; cases e)⟩, (by intro e; cases e), (by intro e; cases e)⟩
  have hins9 := HINS.out.step HI.out hs79 hXX hl2 hfr2
  have hP2 := HP2.out.step hs79 (by rw [HINS.out.k.2.1]; rintro (h | h) <;> cases h)
  have hP3 : SigI W9 lab2 m2 (L.length + 1) (L ++ [(p, us)]) := SigI.put (x := (p, us)) HD2.out HV2.out hown9 HGO.out (by rw [show sgOf (p, us) = (p, us.length) from rfl, HN0.out]; exact hr9) hown2 hs79 hl2
  have hP4 := HP4.out.step hs79 (by rw [HINS.out.k.2.2.2]; rintro (h | h) <;> cases h) (by rintro g (h | h) <;> cases h) hl2
  have HJ := Lib.hid (show InsJ w W9 lab B S gb p us av cap (.slice a24 (L.length + 1) c24) m1 m2 m3 n3 L 0 from ⟨lab2, hins9, hP2, hP3, by rw [fJ_zero]; exact hP4⟩)
  have x1 := cells_at hins9.xb 1 _ rfl
  have hlu : us.length ≤ 8 := by
    have := HV.out
    unfold validA at this
    simp only [Bool.and_eq_true, decide_eq_true_eq] at this
    exact this.1.2
  clear hm8 hgood hr8 hat8 hown9 hg9 hs78 hs79 hvm hr9 hl2 hlab2 hown2 hfr2 hXX hins9 hP2 hP3 hP4 hWW HP2 HP4 HC1 HQ2 HQ3 HO2 HD2 HV2 HN0 HINS hm2 hzw7 hlen0 hBW
  refine wpList_entry_run rfl _ _ _ _ rfl rfl rfl rfl hrun9 ?_
  go_wp2_with fail
  refine HK4.out _ _ ?_
  clear HK4
  go_wp2_with fail
  go_loopw [48] (fun i wr => ∃ j : Nat, j ≤ us.length ∧ i = .int .i64 j ∧ InsJ w wr lab B S gb p us av cap (.slice a24 (L.length + 1) c24) m1 m2 m3 n3 L j) (fun i _ => us.length - (intOf i).toNat)
  case atStart => exact ⟨0, by omega, by go_num, HJ.out⟩
  case round =>
    obtain ⟨j, hj, rfl, hins⟩ := hrel
    have HINJ := Lib.hid hins
    clear hins HJ x1 hrun9
    have i1 : (0 : Int) ≤ (j : Int) := by omega
    by_cases hlt : j < us.length
    · obtain ⟨lab2, hins, hP2, hP3, hP4⟩ := HINJ.out
      have hargs := hins.at'.args (fun b h => Nat.lt_of_lt_of_le h.1 hins.stp.size)
      obtain ⟨b0, off0, hav, hbw, hI⟩ := hargs (by intro e; have e' : us = [] := e; rw [e'] at hlt; simp at hlt)
      subst hav
      obtain ⟨e0, e1, e2, e3, y0, y1, y2, y3, hc⟩ := hI.at j hlt
      have hcnt : (us[j]).count ≤ 1000000 := by
        have h1 := count_mem' (List.getElem_mem hlt)
        have h2 := HC.out
        simp only [cntA] at h2
        omega
      obtain ⟨kk, nn, ss, ua, ul, uc, rfl, rfl, rfl, rfl⟩ := hc.cells4
      have hplt : PlaOk (plaAt (p, us) j hlt) := by
        obtain ⟨_, q1, _, _, _, q2, _⟩ := hins.at'
        refine ⟨⟨q1, q2⟩, i64_len' (by unfold maxLen; omega), ?_⟩
        show (us[j]).str.size ≤ maxLen
        unfold Tm.str
        by_cases hv : (us[j]).validB = true
        · rw [if_pos hv]
          have := str_len hc hcnt hv
          show (us[j]).text.toArray.size ≤ maxLen
          rw [List.size_toArray]
          exact Nat.le_trans this (by unfold maxLen; omega)
        · rw [if_neg hv]
          show 0 ≤ maxLen
          unfold maxLen; omega
      have i2 : (j : Int) < (us.length : Int) := by omega
      obtain ⟨TS, hTS⟩ : ∃ TS, (us[j]).str = TS := ⟨_, rfl⟩
      have HTS := Lib.hid hTS
      have HCC := Lib.hid hc
      have HCNT := Lib.hid hcnt
      have HINS := Lib.hid hins
      have HP2 := Lib.hid hP2
      have HP3 := Lib.hid hP3
      have HP4 := Lib.hid hP4
      have HPOK := Lib.hid hplt
      clear hins hP2 hP3 hP4 hargs hI hc hcnt hTS hplt
      obtain ⟨W1, hW1⟩ : ∃ W1, wr.alloc (.cells #[.int .u8 kk, .int .i64 nn, .string ss, .slice ua ul uc] 46) = W1 := ⟨_, rfl⟩
      have hBA : Below wr.heap.size wr W1 := by rw [← hW1]; exact (Below.refl _ _).alloc (Nat.le_refl _) _
      have hq1 : W1.heap[wr.heap.size]? = some (.cells #[.int .u8 kk, .int .i64 nn, .string ss, .slice ua ul uc] 46 (0, 0)) := by rw [← hW1]; exact World.alloc_heap_new _ _
      have HBA := Lib.hid hBA
      have HQ1 := Lib.hid hq1
      clear hBA hq1
      go_wp2_with fail
      try rw [hW1]
      clear hW1
      have hst := @FL_grow [fV (.agg #[.string p, .int .i64 us.length]), fV (.int .i64 j), fV (.agg #[.int .u8 kk, .int .i64 nn, .string ss, .slice ua ul uc]), fV (.string TS), fV (.agg #[.string p, .int .i64 us.length, .int .i64 j, .string TS]), fBox W1.heap.size #[.string ⟨#[]⟩, .int .i64 0, .int .i64 0, .string ⟨#[]⟩] 89] (by
        intro F hF
        simp only [List.mem_cons, List.not_mem_nil, or_false] at hF
        rcases hF with rfl | rfl | rfl | rfl | rfl | rfl <;> first | exact fV_stays _ | exact fBox_stays _ _ _)
      refine wp_region_grow_tail (by kernel_rfl) 6 (FL [fV (.agg #[.string p, .int .i64 us.length]), fV (.int .i64 j), fV (.agg #[.int .u8 kk, .int .i64 nn, .string ss, .slice ua ul uc]), fV (.string TS), fV (.agg #[.string p, .int .i64 us.length, .int .i64 j, .string TS]), fBox W1.heap.size #[.string ⟨#[]⟩, .int .i64 0, .int .i64 0, .string ⟨#[]⟩] 89]) hst (by kernel_rfl) (by kernel_rfl) (steps_to ?_) ?_
      · simp only [List.take_succ_cons, List.take_zero]
        refine ⟨?_, ?_, ?_, ?_, ?_, ?_, trivial⟩
        · intro a wx hb hd hs ho hp
          refine ⟨rfl, ?_⟩
          have h5 : a.tmps.getD 5 undef = .pointer (some ⟨gb, 0, none⟩) := (ho 5 (by kernel_rfl)).trans rfl
          have hx := (hb.block gb (Nat.lt_of_lt_of_le (Array.getElem?_eq_some_iff.1 HINS.out.g).1 HBA.out.size)).trans ((HBA.out.block gb (Array.getElem?_eq_some_iff.1 HINS.out.g).1).trans HINS.out.g)
          have s5 := qslot_of (hs.trans (rfl : _ = 70)) (by decide) h5
          have x0 := cells_at hx 0 _ rfl
          have x1 := cells_at hx 1 _ rfl
          unfold Oper.wp
          go_simp
          exact Stepped.at (v := .agg #[.string p, .int .i64 us.length]) (by first | rfl | simp) hd (Below.refl _ _) rfl
        · intro a wx hb hd hs ho hp
          refine ⟨rfl, ?_⟩
          have h6 : a.tmps.getD 6 undef = .int .i64 j := (ho 6 (by kernel_rfl)).trans rfl
          unfold Oper.wp
          go_simp
          exact Stepped.at (v := .int .i64 j) (by first | rfl | simp) hd (Below.refl _ _) rfl
        · intro a wx hb hd hs ho hp
          refine ⟨rfl, ?_⟩
          have h7 : a.tmps.getD 7 undef = .pointer (some ⟨wr.heap.size, 0, none⟩) := (ho 7 (by kernel_rfl)).trans rfl
          have hx := (hb.block wr.heap.size (Array.getElem?_eq_some_iff.1 HQ1.out).1).trans HQ1.out
          have s7 := qslot_of (hs.trans (rfl : _ = 70)) (by decide) h7
          have x0 := cells_at hx 0 _ rfl
          have x1 := cells_at hx 1 _ rfl
          have x2 := cells_at hx 2 _ rfl
          have x3 := cells_at hx 3 _ rfl
          unfold Oper.wp
          go_simp
          exact Stepped.at (v := .agg #[.int .u8 kk, .int .i64 nn, .string ss, .slice ua ul uc]) (by first | rfl | simp) hd (Below.refl _ _) rfl
        · intro a wx hb hd hs ho hp
          refine ⟨rfl, ?_⟩
          have h55 : a.tmps.getD 55 undef = .agg #[.int .u8 kk, .int .i64 nn, .string ss, .slice ua ul uc] := facts_at hp 2 55 (by kernel_rfl)
          have hBx : Below wr.heap.size wr wx := HBA.out.trans (hb.mono HBA.out.size)
          have hx := str_any us[j] _ _ _ _ wx ((HCC.out.below hBx).mono hBx.size) HCNT.out (HINS.out.tab.below hBx)
          rw [HTS.out] at hx
          unfold Oper.wp
          go_simp
          refine (hx).mono ?_
          rintro e w9 ⟨rfl, hb9⟩
          exact Stepped.at (v := .string TS) rfl hd (hb9) rfl
        · intro a wx hb hd hs ho hp
          refine ⟨rfl, ?_⟩
          have h53 : a.tmps.getD 53 undef = .agg #[.string p, .int .i64 us.length] := facts_at hp 0 53 (by kernel_rfl)
          have h54 : a.tmps.getD 54 undef = .int .i64 j := facts_at hp 1 54 (by kernel_rfl)
          have h56 : a.tmps.getD 56 undef = .string TS := facts_at hp 3 56 (by kernel_rfl)
          have s53 := qslot_of (hs.trans (rfl : _ = 70)) (by decide) h53
          have s54 := qslot_of (hs.trans (rfl : _ = 70)) (by decide) h54
          have s56 := qslot_of (hs.trans (rfl : _ = 70)) (by decide) h56
          unfold Oper.wp
          go_simp
          exact Stepped.at (v := .agg #[.string p, .int .i64 us.length, .int .i64 j, .string TS]) (by first | rfl | simp) hd (Below.refl _ _) rfl
        · intro a wx hb hd hs ho hp
          refine ⟨rfl, ?_⟩
          unfold Oper.wp
          go_simp
          refine Stepped.at (v := .pointer (some ⟨wx.heap.size, 0, none⟩)) rfl hd ((Below.refl _ _).alloc (Nat.le_refl _) _) ?_
          exact ⟨_, rfl, hb.size, World.alloc_heap_new _ _⟩
      intro ac W2 hBelow hDefers hTmps hOuter hf
      obtain ⟨u53, f53⟩ : ∃ u, ac.tmps.getD 53 undef = u := ⟨_, rfl⟩
      obtain ⟨u54, f54⟩ : ∃ u, ac.tmps.getD 54 undef = u := ⟨_, rfl⟩
      obtain ⟨u55, f55⟩ : ∃ u, ac.tmps.getD 55 undef = u := ⟨_, rfl⟩
      obtain ⟨u56, f56⟩ : ∃ u, ac.tmps.getD 56 undef = u := ⟨_, rfl⟩
      have f57 : ac.tmps.getD 57 undef = .agg #[.string p, .int .i64 us.length, .int .i64 j, .string TS] := facts_to hf 4 57 (by decide) (by kernel_rfl)
      have g8 := facts_to hf 5 8 (by decide) (by kernel_rfl)
      obtain ⟨v8, f8⟩ : ∃ u, ac.tmps.getD 8 undef = u := ⟨_, rfl⟩
      rw [f8] at g8
      obtain ⟨TT, DD⟩ := ac
      obtain rfl : DD = [] := hDefers
      have hE := slots_mergeR [false, false, false, false, false, false, false, false, true, false, false, false, false, false, false, false, false, false, false, false, false, false, false, false, false, false, false, false, false, false, false, false, false, false, false, false, false, false, false, false, false, false, false, false, false, false, false, false, false, false, false, false, false, true, true, true, true, true, false, false, false, false, false, false, false, false, false, false, false, false] 70 hTmps rfl (by kernel_rfl) hOuter
      simp only [mergeFrom, Nat.zero_add, Nat.reduceAdd, f53, f54, f55, f56, f57, f8] at hE
      clear hst hf hOuter hTmps f53 f54 f55 f56 f57 f8
      subst hE
      simp only [List.drop_succ_cons, List.drop_zero]
      obtain ⟨pb, rfl, hgz, hgh⟩ := g8
      have z0 := cells_at hgh 0 _ rfl
      have z1 := cells_at hgh 1 _ rfl
      have z2 := cells_at hgh 2 _ rfl
      have z3 := cells_at hgh 3 _ rfl
      have f0 := frozen_of_row W2 pb 0 _ _ hgh
      have f1 := frozen_of_row W2 pb 1 _ _ hgh
      have f2 := frozen_of_row W2 pb 2 _ _ hgh
      have f3 := frozen_of_row W2 pb 3 _ _ hgh
      have HGH := Lib.hid hgh
      have HGZ := Lib.hid hgz
      have HB2 := Lib.hid hBelow
      clear hgh hgz hBelow
      go_wp2_with fail
      obtain ⟨W7, hW7⟩ : ∃ W7, (((W2.setCell ⟨pb, 0, none⟩ (.string p)).setCell ⟨pb, 1, none⟩ (.int .i64 us.length)).setCell ⟨pb, 2, none⟩ (.int .i64 j)).setCell ⟨pb, 3, none⟩ (.string TS) = W7 := ⟨_, rfl⟩
      have hpb : W7.heap[pb]? = some (.cells #[.string p, .int .i64 us.length, .int .i64 j, .string TS] 89 (0, 0)) := by
        rw [← hW7]
        exact heap_setCell_same _ pb 3 _ _ (.string TS) (heap_setCell_same _ pb 2 _ _ (.int .i64 j) (heap_setCell_same _ pb 1 _ _ (.int .i64 us.length) (heap_setCell_same W2 pb 0 _ _ (.string p) HGH.out)))
      have hB7 : Below W1.heap.size W1 W7 := by rw [← hW7]; exact ((((HB2.out).setCell (p := ⟨pb, 0, none⟩) HGZ.out _).setCell (p := ⟨pb, 1, none⟩) HGZ.out _).setCell (p := ⟨pb, 2, none⟩) HGZ.out _).setCell (p := ⟨pb, 3, none⟩) HGZ.out _
      have hBr : Below wr.heap.size wr W7 := HBA.out.trans (hB7.mono HBA.out.size)
      have hs07 : Stp lab2 (fun _ => False) wr W7 := Stp.of_below hBr
      have hins7 := HINS.out.step HI.out hs07 (fun _ h => h.elim) (fun _ _ => rfl) (fun b hb => ⟨(HINS.out.fr b hb).1, Nat.lt_of_lt_of_le (HINS.out.fr b hb).2 hBr.size⟩)
      have hP2 := HP2.out.step hs07 id
      have hP3 := HP3.out.step hs07 id (fun _ => id) (fun _ _ => rfl)
      have hP4 := HP4.out.step hs07 id (fun _ => id) (fun _ _ => rfl)
      try rw [hW7]
      have hpbz : wr.heap.size ≤ pb := Nat.le_trans HBA.out.size HGZ.out
      have HPBF := Lib.hid (show lab2 pb = .free by
        cases e : lab2 pb with
        | free => rfl
        | _ => have := (HINS.out.fr pb (by rw [e]; intro h; cases h)).2; omega)
      have HINS7 := Lib.hid hins7
      have HP2 := Lib.hid hP2
      have HP3 := Lib.hid hP3
      have HPB := Lib.hid hpb
      obtain ⟨D2, val2, ho2, hd2, hv2⟩ := hP4
      obtain ⟨c1, q2, q3⟩ := hv2 _ HPOK.out
      have HN0 := Lib.hid (fJ_len (p, us) L j (plaAt (p, us) j hlt))
      obtain ⟨P0, hP0⟩ : ∃ P0 : Pla, plaAt (p, us) j hlt = P0 := ⟨_, rfl⟩
      have HP0 := Lib.hid hP0
      rw [hP0] at c1 q2 q3
      have hP0e : P0 = ((p, us.length), (j : Int), TS) := by rw [← hP0, ← HTS.out]; rfl
      obtain ⟨n0, hn0⟩ : ∃ n0, fJ (p, us) L j P0 = n0 := ⟨_, rfl⟩
      rw [hn0] at q2
      have hlen0 : n0.length ≤ 2001 := by rw [← hn0, ← hP0]; have := HN0.out; have := HLen.out; omega
      obtain ⟨a0, c0, e0⟩ := own_slice q2
      rw [e0] at q2 q3 c1
      have hkey : keyOf Tryz.prog 89 (.agg #[.string p, .int .i64 us.length, .int .i64 j, .string TS]) = some (plaK P0) := by
        have := plaK_of P0 (by rw [← HP0.out]; exact HPOK.out)
        rw [hP0e] at this ⊢
        exact this
      have HKEY := Lib.hid hkey
      have HC1 := Lib.hid c1
      have HQ2 := Lib.hid q2
      have HQ3 := Lib.hid q3
      have HO2 := Lib.hid ho2
      have HD2 := Lib.hid hd2
      have HV2 := Lib.hid hv2
      have HNN := Lib.hid hn0
      have hm3 : m3 < W7.heap.size := ho2.lt
      clear c1 q2 q3 ho2 hd2 hv2 hn0 e0 hW7 hpb hB7 hBr hs07 hins7 hP2 hP3 hkey hP0 hP0e z0 z1 z2 z3 f0 f1 f2 f3 HB2 HGH HGZ HN0 HBA HQ1 HCC HCNT HP4 HINS
      have hst := @FL_grow [fV (.pointer (some ⟨S, 0, none⟩)), fV (.pointer (some ⟨S, 0, none⟩)), fV (.pointer (some ⟨S, 3, none⟩)), fV (.map (some m3)), fV (.agg #[.string p, .int .i64 us.length, .int .i64 j, .string TS]), fV (.int .i64 L.length), fOne W7.heap.size (.int .i64 L.length) 3, fEnt 55 89 m3 (n3 + j) D2 (plaK P0) (.slice a0 n0.length c0), fV (.slice a0 n0.length c0), fRow W7.heap.size (.slice a0 n0.length c0) 3 1 (n0.length + 1) ((n0.map fun i : Nat => Value.int .i64 (i : Int)) ++ [.int .i64 L.length]), fSt 55 89 m3 (n3 + j) D2 (plaK P0)] (by
        intro F hF
        simp only [List.mem_cons, List.not_mem_nil, or_false] at hF
        rcases hF with rfl | rfl | rfl | rfl | rfl | rfl | rfl | rfl | rfl | rfl | rfl <;> first | exact fV_stays _ | exact fOne_stays _ _ _ | exact fEnt_stays _ _ _ _ _ _ _ | exact fRow_stays _ _ _ _ _ _ | exact fSt_stays _ _ _ _ _ _)
      refine wp_region_phase_tail (by kernel_rfl) 11 [7, 9] (WQ lab2 (fun l => l = .arm) (fun l => l = .arm ∨ l = .rowP P0) W7) (FL [fV (.pointer (some ⟨S, 0, none⟩)), fV (.pointer (some ⟨S, 0, none⟩)), fV (.pointer (some ⟨S, 3, none⟩)), fV (.map (some m3)), fV (.agg #[.string p, .int .i64 us.length, .int .i64 j, .string TS]), fV (.int .i64 L.length), fOne W7.heap.size (.int .i64 L.length) 3, fEnt 55 89 m3 (n3 + j) D2 (plaK P0) (.slice a0 n0.length c0), fV (.slice a0 n0.length c0), fRow W7.heap.size (.slice a0 n0.length c0) 3 1 (n0.length + 1) ((n0.map fun i : Nat => Value.int .i64 (i : Int)) ++ [.int .i64 L.length]), fSt 55 89 m3 (n3 + j) D2 (plaK P0)]) (by kernel_rfl) (by kernel_rfl) (by decide) (by kernel_rfl) (WQ.start) (steps_Q ?_) ?_
      · simp only [List.take_succ_cons, List.take_zero]
        refine ⟨?_, ?_, ?_, ?_, ?_, ?_, ?_, ?_, ?_, ?_, ?_, trivial⟩
        · intro p0 a wx hW hq1 hq2 hd hs ho hp
          refine ⟨rfl, ?_⟩
          have h0 : a.tmps.getD 0 undef = .pointer (some ⟨S, 0, none⟩) := (ho 0 (by kernel_rfl)).trans rfl
          unfold Oper.wp
          go_simp
          exact SteppedP.grow (v := .pointer (some ⟨S, 0, none⟩)) (by first | rfl | simp) hd (by decide) (hW) rfl (Below.refl _ _) hst
        · intro p0 a wx hW hq1 hq2 hd hs ho hp
          refine ⟨rfl, ?_⟩
          have h58 : a.tmps.getD 58 undef = .pointer (some ⟨S, 0, none⟩) := facts_at hp 0 58 (by kernel_rfl)
          unfold Oper.wp
          go_simp
          exact SteppedP.grow (v := .pointer (some ⟨S, 0, none⟩)) (by first | rfl | simp) hd (by decide) (hW) rfl (Below.refl _ _) hst
        · intro p0 a wx hW hq1 hq2 hd hs ho hp
          refine ⟨rfl, ?_⟩
          have h59 : a.tmps.getD 59 undef = .pointer (some ⟨S, 0, none⟩) := facts_at hp 1 59 (by kernel_rfl)
          unfold Oper.wp
          go_simp
          exact SteppedP.grow (v := .pointer (some ⟨S, 3, none⟩)) (by first | rfl | simp) hd (by decide) (hW) rfl (Below.refl _ _) hst
        · intro p0 a wx hW hq1 hq2 hd hs ho hp
          refine ⟨rfl, ?_⟩
          obtain rfl : p0 = 0 := Nat.le_zero.1 (hq1 0 7 rfl (Or.inr (by kernel_rfl)))
          have hb : Below W7.heap.size W7 wx := hW.1 rfl
          have h60 : a.tmps.getD 60 undef = .pointer (some ⟨S, 3, none⟩) := facts_at hp 2 60 (by kernel_rfl)
          have hx := (hb.block S (Array.getElem?_eq_some_iff.1 HINS7.out.row).1).trans HINS7.out.row
          have x3 := cells_at hx 3 _ rfl
          unfold Oper.wp
          go_simp
          exact SteppedP.grow (v := .map (some m3)) (by first | rfl | simp) hd (by decide) (hW) rfl (Below.refl _ _) hst
        · intro p0 a wx hW hq1 hq2 hd hs ho hp
          refine ⟨rfl, ?_⟩
          obtain rfl : p0 = 0 := Nat.le_zero.1 (hq1 0 7 rfl (Or.inr (by kernel_rfl)))
          have hb : Below W7.heap.size W7 wx := hW.1 rfl
          have h8 : a.tmps.getD 8 undef = .pointer (some ⟨pb, 0, none⟩) := (ho 8 (by kernel_rfl)).trans rfl
          have hx := (hb.block pb (Array.getElem?_eq_some_iff.1 HPB.out).1).trans HPB.out
          have s8 := qslot_of (hs.trans (rfl : _ = 70)) (by decide) h8
          have x0 := cells_at hx 0 _ rfl
          have x1 := cells_at hx 1 _ rfl
          have x2 := cells_at hx 2 _ rfl
          have x3 := cells_at hx 3 _ rfl
          unfold Oper.wp
          go_simp
          exact SteppedP.grow (v := .agg #[.string p, .int .i64 us.length, .int .i64 j, .string TS]) (by first | rfl | simp) hd (by decide) (hW) rfl (Below.refl _ _) hst
        · intro p0 a wx hW hq1 hq2 hd hs ho hp
          refine ⟨rfl, ?_⟩
          have h4 : a.tmps.getD 4 undef = .int .i64 L.length := (ho 4 (by kernel_rfl)).trans rfl
          unfold Oper.wp
          go_simp
          exact SteppedP.grow (v := .int .i64 L.length) (by first | rfl | simp) hd (by decide) (hW) rfl (Below.refl _ _) hst
        · intro p0 a wx hW hq1 hq2 hd hs ho hp
          refine ⟨rfl, ?_⟩
          obtain rfl : p0 = 0 := Nat.le_zero.1 (hq1 0 7 rfl (Or.inr (by kernel_rfl)))
          have hb : Below W7.heap.size W7 wx := hW.1 rfl
          have h64 : a.tmps.getD 64 undef = .int .i64 L.length := facts_at hp 5 64 (by kernel_rfl)
          have s64 := qslot_of (hs.trans (rfl : _ = 70)) (by decide) h64
          have hbA : Below wx.heap.size wx (wx.alloc (.cells #[.int .i64 L.length] 3)) := (Below.refl _ _).alloc (Nat.le_refl _) _
          unfold Oper.wp
          go_simp
          refine SteppedP.grow (v := .slice (some ⟨wx.heap.size, 0, none⟩) 1 1) rfl hd (by decide) (hW.grow hbA) ?_ hbA hst
          exact ⟨wx.heap.size, rfl, hb.size, World.alloc_heap_new _ _⟩
        · intro p0 a wx hW hq1 hq2 hd hs ho hp
          refine ⟨rfl, ?_⟩
          obtain rfl : p0 = 0 := Nat.le_zero.1 (hq1 0 7 rfl (Or.inl rfl))
          have hb : Below W7.heap.size W7 wx := hW.1 rfl
          have h61 : a.tmps.getD 61 undef = .map (some m3) := facts_at hp 3 61 (by kernel_rfl)
          have h62 : a.tmps.getD 62 undef = .agg #[.string p, .int .i64 us.length, .int .i64 j, .string TS] := facts_at hp 4 62 (by kernel_rfl)
          obtain ⟨st, es1, cl1, hrun, hgood⟩ := entry_own (P := Tryz.prog) (t := 55) pla_law Tryz.underlying55 zero_ints (ownsMap_same HO2.out (hb.block m3 (HO2.out.lt))) (by have := HLen.out; have := HP5.out; unfold maxLen; omega) HKEY.out HC1.out (own_SlV HQ2.out)
          have hml := (Array.getElem?_eq_some_iff.1 ((hb.block m3 (HO2.out.lt)).trans (Array.getElem?_eq_getElem (HO2.out.lt)))).1
          unfold Oper.wp
          go_simp
          refine SteppedP.write (v := .tuple #[.slice a0 n0.length c0, goInt st]) rfl hd (by decide) (hW.write0 (setBlock_stp HINS7.out.k.2.2.2) (fun _ h => Or.inl h)) (fun d hd2 => ?_) ?_
          · exact ⟨st, es1, cl1, rfl, by simp [setBlock, hml], hgood⟩
          · have hoff : ∀ b, W7.heap.size ≤ b → b < wx.heap.size → (setBlock wx m3 (.map es1 cl1)).heap[b]? = wx.heap[b]? := fun b h1 h2 => (setBlock_grown wx m3 _).block b h2 (fun e => by cases e; have := HO2.out.lt; omega)
            intro j u hj hw hf
            rcases j with _ | _ | _ | _ | _ | _ | _ | _ | _ | _ | _ | j
            · exact hf
            · exact hf
            · exact hf
            · exact hf
            · exact hf
            · exact hf
            · exact fOne_off hf hoff
            · exact absurd rfl hj
            · exact hf
            · exact absurd (hw.symm.trans (show waitsT _ _ _ _ = true by kernel_rfl)) (by decide)
            · exact absurd (hw.symm.trans (show waitsT _ _ _ _ = true by kernel_rfl)) (by decide)
            · exact hf
        · intro p0 a wx hW hq1 hq2 hd hs ho hp
          refine ⟨rfl, ?_⟩
          have h66 := facts_at hp 7 66 (by kernel_rfl)
          obtain ⟨st, es1, cl1, e42, _, _⟩ := h66
          have h66 : a.tmps.getD 66 undef = .tuple #[.slice a0 n0.length c0, goInt st] := e42
          clear e42
          unfold Oper.wp
          go_simp
          exact SteppedP.grow (v := .slice a0 n0.length c0) (by first | rfl | simp) hd (by decide) hW rfl (Below.refl _ _) hst
        · intro p0 a wx hW hq1 hq2 hd hs ho hp
          refine ⟨rfl, ?_⟩
          have hpp := hq1
          have hp1 : p0 = 1 := by have h1 := hq1 1 9 rfl (Or.inl rfl); have h2 := hq2 0 7 rfl (by kernel_rfl); omega
          subst hp1
          have hs1 : Stp lab2 (fun l => l = .arm) W7 wx := hW.2.1 (by decide)
          have h63 : a.tmps.getD 63 undef = .slice a0 n0.length c0 := facts_at hp 8 63 (by kernel_rfl)
          have h65 := facts_at hp 6 65 (by kernel_rfl)
          obtain ⟨g, e41, hgz, hgh⟩ := h65
          have hq2x := own_stp hs1 HQ2.out (fun b e => by rw [HQ3.out b e]; intro h; cases h)
          have hlo : ∀ b, (Value.ownBlock (.slice a0 n0.length c0)) = some b → b < W7.heap.size := fun b e => (own_block HQ2.out b e).2
          obtain ⟨i0, hi, hz0, hz1, hz2⟩ := info_parts' (show (Tryz.prog.info? 3).map (fun i => (i.zero, i.size, i.bytes)) = some (some (.int .i64 0), 1, 8) by kernel_rfl)
          obtain ⟨v9, w9, hr, hown, hgrow, _, hat⟩ := run_append_own_at (P := Tryz.prog) wx 0 85 85 3 i0 _ 1 8 Tryz.underlying85 hi hz0 hz1 hz2 rfl (by decide) (.slice a0 n0.length c0) n0.length ((n0.map fun i : Nat => Value.int .i64 (i : Int))) hq2x ⟨g, 0, none⟩ 1 1 [.int .i64 L.length] rfl (by
            intro jj u' hu'
            rcases jj with _ | jj
            · cases hu'; exact cells_at hgh 0 _ rfl
            · simp at hu') (by simp [Value.oneCell']) (by unfold maxLen; omega) (by omega) (Nat.zero_le _)
          refine wp_append _ _ 85 rfl h63 e41 hr ?_
          have hzb := hs1.size
          refine SteppedP.write (v := v9) rfl rfl (by decide) (hW.write1 (grown_stp hgrow (fun b e => Or.inr (HQ3.out b e)))) (fun d hd2 => ⟨hown, ?_⟩) ?_
          · rcases hat with e | e
            · exact Or.inl e
            · exact Or.inr ⟨_, e, hzb⟩
          · have hoff : ∀ b, W7.heap.size ≤ b → b < wx.heap.size → w9.heap[b]? = wx.heap[b]? := fun b h1 h2 => hgrow.block b h2 (fun e => by have := hlo b e.symm; omega)
            have hoffm : w9.heap[m3]? = wx.heap[m3]? := hgrow.block m3 (by have := HO2.out.lt; omega) (fun e => by have h1 := HQ3.out m3 e.symm; rw [HINS7.out.k.2.2.2] at h1; cases h1)
            intro j u hj hw hf
            rcases j with _ | _ | _ | _ | _ | _ | _ | _ | _ | _ | _ | j
            · exact hf
            · exact hf
            · exact hf
            · exact hf
            · exact hf
            · exact hf
            · exact fOne_off hf hoff
            · exact fEnt_off hf hoffm
            · exact hf
            · exact absurd rfl hj
            · exact fSt_off hf hoffm
            · exact hf
        · intro p0 a wx hW hq1 hq2 hd hs ho hp
          refine ⟨rfl, ?_⟩
          have h66 := facts_at hp 7 66 (by kernel_rfl)
          obtain ⟨st, es1, cl1, e42, e43, e44⟩ := h66
          have h66 : a.tmps.getD 66 undef = .tuple #[.slice a0 n0.length c0, goInt st] := e42
          clear e42
          unfold Oper.wp
          go_simp
          exact SteppedP.grow (v := goInt st) (by first | rfl | simp) hd (by decide) hW ⟨st, es1, cl1, rfl, e43, e44⟩ (Below.refl _ _) hst
      intro ac W8 hWW hDefers hTmps hOuter hf
      obtain ⟨u58, f58⟩ : ∃ u, ac.tmps.getD 58 undef = u := ⟨_, rfl⟩
      obtain ⟨u59, f59⟩ : ∃ u, ac.tmps.getD 59 undef = u := ⟨_, rfl⟩
      obtain ⟨u60, f60⟩ : ∃ u, ac.tmps.getD 60 undef = u := ⟨_, rfl⟩
      have f61 : ac.tmps.getD 61 undef = .map (some m3) := facts_toR hf 3 61 (by decide) (by kernel_rfl)
      obtain ⟨u62, f62⟩ : ∃ u, ac.tmps.getD 62 undef = u := ⟨_, rfl⟩
      obtain ⟨u64, f64⟩ : ∃ u, ac.tmps.getD 64 undef = u := ⟨_, rfl⟩
      obtain ⟨u65, f65⟩ : ∃ u, ac.tmps.getD 65 undef = u := ⟨_, rfl⟩
      obtain ⟨u66, f66⟩ : ∃ u, ac.tmps.getD 66 undef = u := ⟨_, rfl⟩
      obtain ⟨u63, f63⟩ : ∃ u, ac.tmps.getD 63 undef = u := ⟨_, rfl⟩
      have g67 := facts_toR hf 9 67 (by decide) (by kernel_rfl)
      obtain ⟨v67, f67⟩ : ∃ u, ac.tmps.getD 67 undef = u := ⟨_, rfl⟩
      rw [f67] at g67
      have g68 := facts_toR hf 10 68 (by decide) (by kernel_rfl)
      obtain ⟨v68, f68⟩ : ∃ u, ac.tmps.getD 68 undef = u := ⟨_, rfl⟩
      rw [f68] at g68
      obtain ⟨TT, DD⟩ := ac
      obtain rfl : DD = [] := hDefers
      have hE := slots_mergeR [false, false, false, false, false, false, false, false, false, false, false, false, false, false, false, false, false, false, false, false, false, false, false, false, false, false, false, false, false, false, false, false, false, false, false, false, false, false, false, false, false, false, false, false, false, false, false, false, false, false, false, false, false, false, false, false, false, false, true, true, true, true, true, true, true, true, true, true, true, false] 70 hTmps rfl (by kernel_rfl) hOuter
      simp only [mergeFrom, Nat.zero_add, Nat.reduceAdd, f58, f59, f60, f61, f62, f64, f65, f66, f63, f67, f68] at hE
      clear hst hf hOuter hTmps f58 f59 f60 f61 f62 f64 f65 f66 f63 f67 f68
      subst hE
      simp only [List.drop_succ_cons, List.drop_zero]
      obtain ⟨st, es1, cl1, rfl, hm8, hgood⟩ := g68
      obtain ⟨hr8, hat8⟩ := g67
      obtain ⟨a43, c43, e43⟩ := own_slice hr8
      subst e43
      obtain ⟨W9, hrun9, hown9, hg9⟩ := hgood W8 (.slice a43 (n0.length + 1) c43) hm8 (own_SlV hr8)
      have hs78 : Stp lab2 (fun l => l = Lbl.arm ∨ l = Lbl.rowP P0) W7 W8 := hWW.2.2
      have hs79 : Stp lab2 (fun l => l = Lbl.arm ∨ l = Lbl.rowP P0) W7 W9 := hs78.trans (Stp.of_grown hg9 (fun b e _ => by cases e; exact Or.inl HINS7.out.k.2.2.2)) (fun _ _ => rfl)
      have hvm : (Value.slice a43 (n0.length + 1) c43).ownBlock ≠ some m3 := by
        intro e
        rcases hat8 with h | ⟨g, h, hg⟩
        · have h1 := HQ3.out m3 (h ▸ e); rw [HINS7.out.k.2.2.2] at h1; cases h1
        · rw [e] at h; cases h; omega
      have hr9 := IntR.cast (own_keep hr8 hg9 hvm)
      have hl2 := newLab_old (l := Lbl.rowP P0) (n := W7.heap.size) HQ3.out hat8
      obtain ⟨lab3, hlab2⟩ : ∃ x, newLab lab2 (.slice a43 (n0.length + 1) c43) (Lbl.rowP P0) = x := ⟨_, rfl⟩
      have hown2 : ∀ b, (Value.slice a43 (n0.length + 1) c43).ownBlock = some b → lab3 b = Lbl.rowP P0 := by rw [← hlab2]; exact newLab_own
      have hBW : B ≤ W7.heap.size := by have := (HINS7.out.fr S (by rw [HINS7.out.k.1]; intro e; cases e)); omega
      have hfr2 := newLab_frees (l := Lbl.rowP P0) (W' := W9) HINS7.out.fr HQ3.out (by intro e; cases e) hat8 (fun b e => (own_block hr9 b e).2) hs79.size hBW
      rw [hlab2] at hl2 hfr2
      have hXX : ∀ l, (l = Lbl.arm ∨ l = Lbl.rowP P0) → Own l ∧ l ≠ .obj ∧ l ≠ .lst := by
        rintro l (rfl | rfl)
        · exact ⟨⟨(by intro e; cases e), (by intro e; cases e)⟩, (by intro e; cases e), (by intro e; cases e)⟩
        · exact ⟨⟨(by intro e; cases e), (by intro e; cases e)⟩, (by intro e; cases e), (by intro e; cases e)⟩
      have hins9 := HINS7.out.step HI.out hs79 hXX hl2 hfr2
      have hP2 := HP2.out.step hs79 (by rw [HINS7.out.k.2.1]; rintro (h | h) <;> cases h)
      have hP3 := HP3.out.step hs79 (by rw [HINS7.out.k.2.2.1]; rintro (h | h) <;> cases h) (by rintro g (h | h) <;> cases h) hl2
      have hP4 : ArgI W9 lab3 m3 (n3 + j + 1) (fJ (p, us) L (j + 1)) := ArgI.put (k := L.length) HD2.out HV2.out hown9 (by rw [← HP0.out]; exact HPOK.out) (by rw [HNN.out]; exact hr9) hown2 hs79 hl2 (by rw [← HP0.out]; exact fJ_here (p, us) L j hlt) (by rw [← HP0.out]; exact fJ_other (p, us) L j hlt)
      have HJ := Lib.hid (show InsJ w W9 lab B S gb p us (some ⟨b0, off0, none⟩) cap (.slice a24 (L.length + 1) c24) m1 m2 m3 n3 L (j + 1) from ⟨lab3, hins9, hP2, hP3, hP4⟩)
      clear hm8 hgood hr8 hat8 hown9 hg9 hs78 hs79 hvm hr9 hl2 hlab2 hown2 hfr2 hXX hins9 hP2 hP3 hP4 hWW HP2 HP3 HC1 HQ2 HQ3 HO2 HD2 HV2 HNN HINS7 hm3 hlen0 hBW HPB HPBF HKEY
      refine wpList_entry_run rfl _ _ _ _ rfl rfl rfl rfl hrun9 ?_
      clear hrun9
      go_wp2_with fail
      go_roundw
      case rel => exact ⟨j + 1, by omega, by go_num, HJ.out⟩
      case measure => simp [intOf]; omega
    · have i2 : ¬ (j : Int) < (us.length : Int) := by omega
      have hje : j = us.length := by omega
      go_wp2
      refine bodyPost_end (v := .tuple #[]) (results_none rfl _ _ _) rfl ?_
      obtain ⟨lab2, hins, hP2, hP3, hP4⟩ := HINJ.out
      rw [hje] at hP4
      refine ⟨rfl, lab2, ⟨hins.tab, HI.out.base, hins.fr, ?_, by have := HLen.out; rw [List.length_append]; simp; omega, .slice a24 (L.length + 1) c24, m1, m2, m3, n3 + us.length, hins.row, hins.k.1, hins.k.2.1, hins.k.2.2.1, hins.k.2.2.2, hins.p1, by rw [List.length_append]; exact hP2, by rw [List.length_append]; exact hP3, by have h1 := fJ_end (p, us) L; simp only at h1; rw [← h1]; exact hP4, ?_⟩, hins.n1, hins.stp⟩
      · intro y hy
        rcases List.mem_append.1 hy with h | h
        · exact HI.out.good y h
        · rw [List.mem_singleton.1 h]; exact ⟨HV.out, HC.out⟩
      · have := HP5.out; rw [List.length_append]; simp; omega
end Go.Proofs.YtcoieohbmkjpoaaGreatDoor
namespace Go.Proofs.YtcoieohbmkjpoaaGreatDoor
open Go.RowKit Go.Shelf Go.Maps
attribute [local go_sem] Oper.semAt_some

theorem empty_any (w : World) : Calls Tryz.prog 49 #[] w fun e w' => ∃ m1 m2 m3, e = .returned (.agg #[.slice none 0 0, .map (some m1), .map (some m2), .map (some m3)]) ∧ w.heap.size ≤ m1 ∧ m1 < m2 ∧ m2 < m3 ∧ w'.heap[m1]? = some (.map #[] 0) ∧ w'.heap[m2]? = some (.map #[] 0) ∧ w'.heap[m3]? = some (.map #[] 0) ∧ Below w.heap.size w w' := by
  have k1 : ∀ u : World, (Instr.makeMap 53 none).run Tryz.prog u = .ok (.map (some u.heap.size)) (u.alloc (.map #[] 0)) := fun u => by kernel_rfl
  have k2 : ∀ u : World, (Instr.makeMap 54 none).run Tryz.prog u = .ok (.map (some u.heap.size)) (u.alloc (.map #[] 0)) := fun u => by kernel_rfl
  have k3 : ∀ u : World, (Instr.makeMap 55 none).run Tryz.prog u = .ok (.map (some u.heap.size)) (u.alloc (.map #[] 0)) := fun u => by kernel_rfl
  go_enter Tryz.func49, Tryz.ntmps49
  go_wp2
  obtain ⟨W1, hW1⟩ : ∃ W1, w.alloc (.cells #[.slice none 0 0, .map (some (w.heap.size + 1)), .map (some (w.heap.size + 1 + 1)), .map (some (w.heap.size + 1 + 1 + 1))] 57) = W1 := ⟨_, rfl⟩
  have hz : W1.heap.size = w.heap.size + 1 := by rw [← hW1]; simp
  have hr : W1.heap[w.heap.size]? = some (.cells #[.slice none 0 0, .map (some (w.heap.size + 1)), .map (some (w.heap.size + 1 + 1)), .map (some (w.heap.size + 1 + 1 + 1))] 57 (0, 0)) := by rw [← hW1]; exact World.alloc_heap_new _ _
  have hB : Below w.heap.size w W1 := by rw [← hW1]; exact (Below.refl _ w).alloc (Nat.le_refl _) _
  rw [hW1]
  obtain ⟨W2, hW2⟩ : ∃ W2, W1.alloc (.map #[] 0) = W2 := ⟨_, rfl⟩
  have hz2 : W2.heap.size = w.heap.size + 2 := by rw [← hW2]; simp [hz]
  have h2 : W2.heap[w.heap.size + 1]? = some (.map #[] 0) := by rw [← hW2, ← hz]; exact World.alloc_heap_new _ _
  rw [hW2]
  obtain ⟨W3, hW3⟩ : ∃ W3, W2.alloc (.map #[] 0) = W3 := ⟨_, rfl⟩
  have hz3 : W3.heap.size = w.heap.size + 3 := by rw [← hW3]; simp [hz2]
  have h3 : W3.heap[w.heap.size + 2]? = some (.map #[] 0) := by rw [← hW3, ← hz2]; exact World.alloc_heap_new _ _
  rw [hW3]
  obtain ⟨W4, hW4⟩ : ∃ W4, W3.alloc (.map #[] 0) = W4 := ⟨_, rfl⟩
  have h4 : W4.heap[w.heap.size + 3]? = some (.map #[] 0) := by rw [← hW4, ← hz3]; exact World.alloc_heap_new _ _
  rw [hW4]
  have b23 : Below W2.heap.size W2 W3 := by rw [← hW3]; exact (Below.refl _ _).alloc (Nat.le_refl _) _
  have b34 : Below W3.heap.size W3 W4 := by rw [← hW4]; exact (Below.refl _ _).alloc (Nat.le_refl _) _
  have b12 : Below W1.heap.size W1 W2 := by rw [← hW2]; exact (Below.refl _ _).alloc (Nat.le_refl _) _
  have b14 : Below W1.heap.size W1 W4 := (b12.trans (b23.mono b12.size)).trans (b34.mono (Nat.le_trans b12.size b23.size))
  have hr4 := (b14.block w.heap.size (by omega)).trans hr
  have r0 := cells_at hr4 0 _ rfl
  have r1 := cells_at hr4 1 _ rfl
  have r2 := cells_at hr4 2 _ rfl
  have r3 := cells_at hr4 3 _ rfl
  refine bodyPost_ret (v := .agg #[.slice none 0 0, .map (some (w.heap.size + 1)), .map (some (w.heap.size + 1 + 1)), .map (some (w.heap.size + 1 + 1 + 1))]) (by simp [results, Tryz.f49, go_sem, r0, r1, r2, r3]) rfl ?_
  exact ⟨_, _, _, rfl, by omega, by omega, by omega, ((b34.block _ (by omega)).trans (b23.block _ (by omega))).trans h2, (b34.block _ (by omega)).trans h3, h4, hB.trans (b14.mono hB.size)⟩
theorem StI.nil {w : World} {B S m1 m2 m3 : Nat} (hT : Tab10 w) (hg : 3 < B) (h0 : w.heap[S]? = some (.cells #[.slice none 0 0, .map (some m1), .map (some m2), .map (some m3), .pointer (some ⟨S, 0, none⟩)] 59 (0, 0)))
    (h1 : w.heap[m1]? = some (.map #[] 0)) (h2 : w.heap[m2]? = some (.map #[] 0)) (h3 : w.heap[m3]? = some (.map #[] 0)) (b1 : B ≤ m1) (b2 : m1 < m2) (b3 : m2 < m3) (b4 : m3 < S) : ∃ lab, StI w B lab S [] := by
  have hl1 := (Array.getElem?_eq_some_iff.1 h1).1
  have hl2 := (Array.getElem?_eq_some_iff.1 h2).1
  have hl3 := (Array.getElem?_eq_some_iff.1 h3).1
  have hlS := (Array.getElem?_eq_some_iff.1 h0).1
  have made : ∀ {H : Type} (m : Nat) (k : TypeId) (R : Value → Option (DataW H × List MemPlace)), w.heap[m]? = some (.map #[] 0) → w.ownsMap Tryz.prog k R m 0 (.map []) := fun {H} m k R h =>
    ⟨#[], 0, h, ⟨by simp, MapKept.stamped_empty 0, by simp⟩, Nat.le_refl _, rfl⟩
  refine ⟨fun b => if b = S then .obj else if b = m1 then .num else if b = m2 then .sgm else if b = m3 then .arm else .free, hT, hg, fun b hb => ?_, by simp, by simp, .slice none 0 0, m1, m2, m3, 0, h0, by simp, ?_, ?_, ?_, ?_, ?_, ?_, ?_, by simp⟩
  · by_cases e : b = S
    · subst e; exact ⟨by omega, hlS⟩
    by_cases e1 : b = m1
    · subst e1; exact ⟨b1, hl1⟩
    by_cases e2 : b = m2
    · subst e2; exact ⟨by omega, hl2⟩
    by_cases e3 : b = m3
    · subst e3; exact ⟨by omega, hl3⟩
    simp [e, e1, e2, e3] at hb
  · simp; omega
  · rw [if_neg (by omega), if_neg (by omega)]; simp
  · rw [if_neg (by omega), if_neg (by omega), if_neg (by omega)]; simp
  · exact ⟨[], World.ownsRow_nil _ _ _ _, rfl, fun b e => by cases e⟩
  · exact ⟨_, made m1 _ _ h1, SetD.nil _⟩
  · exact ⟨_, fun _ => .slice none 0 0, made m2 _ _ h2, SetD.nil _, fun g _ => ⟨by rw [WideAt.atKey_none _ (by simp)]; rfl, World.ownsRow_nil _ _ _ _, fun b e => by cases e⟩⟩
  · exact ⟨_, fun _ => .slice none 0 0, made m3 _ _ h3, ⟨[], rfl⟩, fun g _ => ⟨by rw [WideAt.atKey_none _ (by simp)]; rfl, World.ownsRow_nil _ _ _ _, fun b e => by cases e⟩⟩
set_option maxHeartbeats 2000000 in
theorem new_any (w : World) (hT : Tab10 w) : Calls Tryz.prog 14 #[] w fun e w' => ∃ S lab, e = .returned (.pointer (some ⟨S, 0, none⟩)) ∧ StI w' w.heap.size lab S [] ∧ Below w.heap.size w w' := by
  have HE := Lib.hid (empty_any w)
  have HT := Lib.hid hT
  clear hT
  go_enter Tryz.func14, Tryz.ntmps14
  go_wp2_with (go_at_call 49; refine HE.out.mono ?_; rintro e w1 ⟨m1, m2, m3, rfl, q1, q2, q3, q4, q5, q6, q7⟩; have HQ := Lib.hid q7; have HM1 := Lib.hid q4; have HM2 := Lib.hid q5; have HM3 := Lib.hid q6; clear q4 q5 q6 q7)
  obtain ⟨W, hW⟩ : ∃ W, w1.alloc (.cells #[.slice none 0 0, .map (some m1), .map (some m2), .map (some m3), .pointer (some ⟨w1.heap.size, 0, none⟩)] 59) = W := ⟨_, rfl⟩
  have hb : Below w1.heap.size w1 W := by rw [← hW]; exact (Below.refl _ _).alloc (Nat.le_refl _) _
  have h0 : W.heap[w1.heap.size]? = some (.cells #[.slice none 0 0, .map (some m1), .map (some m2), .map (some m3), .pointer (some ⟨w1.heap.size, 0, none⟩)] 59 (0, 0)) := by rw [← hW]; exact World.alloc_heap_new _ _
  have l3 := (Array.getElem?_eq_some_iff.1 HM3.out).1
  have hBw : Below w.heap.size w W := HQ.out.trans (hb.mono HQ.out.size)
  obtain ⟨lab, hI⟩ := StI.nil (HT.out.below hBw) HT.out.1 h0 ((hb.block _ (by omega)).trans HM1.out) ((hb.block _ (by omega)).trans HM2.out) ((hb.block _ l3).trans HM3.out) q1 q2 q3 l3
  rw [hW]
  go_ret
  exact ⟨_, lab, rfl, hI, hBw⟩
theorem ownsMap_ok {H : Type} {P : Program} {w : World} {t k e : TypeId} {R : Value → Option (DataW H × List MemPlace)} {b n : Nat} {D : DataW H} {key z : Value} {kl : Lit} (h : w.ownsMap P k R b n D) (K : Keyed P k) (ht : P.underlying t = some (.map k e)) (hz : (zeroValue e).run P w = .ok z w) (hkey : keyOf P k key = some kl) :
    ∃ v, (Instr.lookup t (.map (some b)) key true).run P w = .ok (.tuple #[v, .bool (Maps.has D kl)]) w := by
  obtain ⟨es, clock, hb, F, _, rfl⟩ := h
  rcases Maps.fit_look true K ht hz hb F hkey with ⟨hrun, _, hat⟩ | ⟨e0, y, _, _, hrun, _, hat, _⟩
  · exact ⟨_, by rw [hrun, has_false_of_atKey hat]; rfl⟩
  · exact ⟨_, by rw [hrun, has_true_of_atKey hat]; rfl⟩
theorem SetD.has {α : Type} {key : α → List UInt8} {D : DataW Unit} {names : List α} (h : SetD key D names) (s : α) : Maps.has D (.string (key s)) = true ↔ ∃ t ∈ names, key t = key s := by
  obtain ⟨es, rfl, hk, _, hm, _⟩ := h
  constructor
  · intro hh
    obtain ⟨p, hp, hpk⟩ := List.any_eq_true.1 hh
    obtain ⟨t, ht, e⟩ := hk p hp
    have := WideAt.sameKey_eq hpk
    rw [e] at this
    exact ⟨t, ht, by simpa using this⟩
  · rintro ⟨t, ht, e⟩
    obtain ⟨p, hp, hpk⟩ := hm t ht
    exact List.any_eq_true.2 ⟨p, hp, by rw [hpk, e]; simp [Lit.sameKey]⟩
theorem strB_inj {s t : ByteArray} (h : strB s = strB t) : s = t := by
  unfold strB at h
  exact ByteArray.ext (Array.ext' h)
/-- A store's row in memory. -/
theorem StI.row {w : World} {B S : Nat} {lab : Lab} {L : List Ato} (h : StI w B lab S L) : ∃ la lc m1 m2 m3, w.heap[S]? = some (.cells #[.slice la L.length lc, .map (some m1), .map (some m2), .map (some m3), .pointer (some ⟨S, 0, none⟩)] 59 (0, 0)) ∧
    NumI w m1 L.length L ∧ SigI w lab m2 L.length L ∧ (∃ n3, ArgI w lab m3 n3 (fun p => ix (qP p) L)) ∧ LstI w lab (.slice la L.length lc) L := by
  obtain ⟨lv, m1, m2, m3, n3, h0, _, _, _, _, p1, p2, p3, p4, _⟩ := h.mem
  have hp := p1
  obtain ⟨xs, ho, _⟩ := p1
  obtain ⟨la, lc, rfl⟩ := own_slice ho
  exact ⟨la, lc, m1, m2, m3, h0, p2, p3, ⟨n3, p4⟩, hp⟩
/-- What is no store: a nil pointer, a zero value. -/
def NoSt (w : World) (v : Value) : Prop := v = .pointer none ∨ ∃ Z, v = .pointer (some ⟨Z, 0, none⟩) ∧ w.cell? ⟨Z, 4, none⟩ = some (.pointer none)
theorem run_eql_nil_ptr {P : Program} {tp te : TypeId} (w : World) (a : Addr) (hp : P.underlying tp = some (.pointer te)) : (binOp .eql tp (.pointer none) (.pointer (some a))).run P w = .ok (.bool false) w := by
  have h : ∀ d : Nat, (Op.equalIn (d + 1) tp (.pointer none) (.pointer (some a))).run P w = .ok false w := fun d => by simp [Op.equalIn, run_underlying hp]
  simp only [binOp]
  simp [Op.equal, Op.maxDepth, h 9999]
set_option maxRecDepth 100000 in
set_option maxRecDepth 100000 in
set_option maxHeartbeats 1000000 in
theorem made_row (S : Nat) (a b c d : Value) (w : World) (h : w.heap[S]? = some (.cells #[a, b, c, d, .pointer (some ⟨S, 0, none⟩)] 59 (0, 0))) : Calls Tryz.prog 50 #[.pointer (some ⟨S, 0, none⟩)] w fun e w' => e = .returned (.bool true) ∧ w' = w := by
  have x4 := cells_at h 4 _ rfl
  obtain ⟨i0, hi⟩ : ∃ i, Tryz.prog.info? 59 = some i := Option.isSome_iff_exists.1 (by kernel_rfl)
  have hq := run_eql_ptr_same w (⟨S, 0, none⟩ : Addr) Tryz.underlying31 hi
  clear h hi
  go_enter Tryz.func50, Tryz.ntmps50
  go_wp2
  go_ret
  exact ⟨rfl, rfl⟩
set_option maxRecDepth 100000 in
set_option maxRecDepth 100000 in
set_option maxHeartbeats 1000000 in
theorem made_no (v : Value) (w : World) (h : NoSt w v) : Calls Tryz.prog 50 #[v] w fun e w' => e = .returned (.bool false) ∧ w' = w := by
  rcases h with rfl | ⟨Z, rfl, x4⟩
  · go_enter Tryz.func50, Tryz.ntmps50
    go_wp2
    go_ret
    exact ⟨rfl, rfl⟩
  · have hq := run_eql_nil_ptr w (⟨Z, 0, none⟩ : Addr) Tryz.underlying31
    go_enter Tryz.func50, Tryz.ntmps50
    go_wp2
    go_ret
    exact ⟨rfl, rfl⟩
set_option maxRecDepth 100000 in
set_option maxHeartbeats 1000000 in
theorem content_row (S : Nat) (a : Option Addr) (n k : Nat) (m1 m2 m3 : Option Nat) (w : World) (h : w.heap[S]? = some (.cells #[.slice a n k, .map m1, .map m2, .map m3, .pointer (some ⟨S, 0, none⟩)] 59 (0, 0))) : Calls Tryz.prog 54 #[.pointer (some ⟨S, 0, none⟩)] w fun e w' => e = .returned (.agg #[.slice a n k, .map m1, .map m2, .map m3]) ∧ Below w.heap.size w w' := by
  obtain ⟨W, hW⟩ : ∃ W, w.alloc (.cells #[.slice none 0 0, .map none, .map none, .map none] 57) = W := ⟨_, rfl⟩
  have hb : Below w.heap.size w W := by rw [← hW]; exact (Below.refl _ _).alloc (Nat.le_refl _) _
  have hS := (hb.block S (Array.getElem?_eq_some_iff.1 h).1).trans h
  have HM := Lib.hid (made_row S _ _ _ _ W hS)
  have hR : W.heap[w.heap.size]? = some (.cells #[.slice none 0 0, .map none, .map none, .map none] 57 (0, 0)) := by rw [← hW]; exact World.alloc_heap_new _ _
  have x0 := cells_at hS 0 _ rfl
  have x1 := cells_at hS 1 _ rfl
  have x2 := cells_at hS 2 _ rfl
  have x3 := cells_at hS 3 _ rfl
  have y0 := cells_at hR 0 _ rfl
  have y1 := cells_at hR 1 _ rfl
  have y2 := cells_at hR 2 _ rfl
  have y3 := cells_at hR 3 _ rfl
  have f0 := frozen_of_row W w.heap.size 0 _ _ hR
  have f1 := frozen_of_row W w.heap.size 1 _ _ hR
  have f2 := frozen_of_row W w.heap.size 2 _ _ hR
  have f3 := frozen_of_row W w.heap.size 3 _ _ hR
  have HB := Lib.hid hb
  have HR := Lib.hid hR
  clear hS hR hb h
  go_enter Tryz.func54, Tryz.ntmps54
  go_wp2_with (go_at_call 50; refine HM.out.mono ?_; rintro e w1 ⟨rfl, rfl⟩)
  have r3 := heap_setCell_same _ w.heap.size 3 _ _ (.map m3) (heap_setCell_same _ w.heap.size 2 _ _ (.map m2) (heap_setCell_same _ w.heap.size 1 _ _ (.map m1) (heap_setCell_same w1 w.heap.size 0 _ _ (.slice a n k) HR.out)))
  have z0 := cells_at r3 0 _ rfl
  have z1 := cells_at r3 1 _ rfl
  have z2 := cells_at r3 2 _ rfl
  have z3 := cells_at r3 3 _ rfl
  refine bodyPost_ret (v := .agg #[.slice a n k, .map m1, .map m2, .map m3]) (by simp [results, Tryz.f54, go_sem, z0, z1, z2, z3]) rfl ?_
  exact ⟨rfl, (((HB.out.setCell (p := ⟨w.heap.size, 0, none⟩) (by simp) _).setCell (p := ⟨w.heap.size, 1, none⟩) (by simp) _).setCell (p := ⟨w.heap.size, 2, none⟩) (by simp) _).setCell (p := ⟨w.heap.size, 3, none⟩) (by simp) _⟩
set_option maxRecDepth 100000 in
set_option maxHeartbeats 1000000 in
theorem content_no (v : Value) (w : World) (h : NoSt w v) : Calls Tryz.prog 54 #[v] w fun e w' => e = .returned (.agg #[.slice none 0 0, .map none, .map none, .map none]) ∧ Below w.heap.size w w' := by
  obtain ⟨W, hW⟩ : ∃ W, w.alloc (.cells #[.slice none 0 0, .map none, .map none, .map none] 57) = W := ⟨_, rfl⟩
  have hb : Below w.heap.size w W := by rw [← hW]; exact (Below.refl _ _).alloc (Nat.le_refl _) _
  have hN : NoSt W v := by
    rcases h with rfl | ⟨Z, rfl, x4⟩
    · exact Or.inl rfl
    · exact Or.inr ⟨Z, rfl, (hb.cell (p := ⟨Z, 4, none⟩) (block_lt_of_cell x4)).trans x4⟩
  have HM := Lib.hid (made_no v W hN)
  have HB := Lib.hid hb
  have hR : W.heap[w.heap.size]? = some (.cells #[.slice none 0 0, .map none, .map none, .map none] 57 (0, 0)) := by rw [← hW]; exact World.alloc_heap_new _ _
  have y0 := cells_at hR 0 _ rfl
  have y1 := cells_at hR 1 _ rfl
  have y2 := cells_at hR 2 _ rfl
  have y3 := cells_at hR 3 _ rfl
  have f0 := frozen_of_row W w.heap.size 0 _ _ hR
  have f1 := frozen_of_row W w.heap.size 1 _ _ hR
  have f2 := frozen_of_row W w.heap.size 2 _ _ hR
  have f3 := frozen_of_row W w.heap.size 3 _ _ hR
  have HR := Lib.hid hR
  clear hN h hb hR
  go_enter Tryz.func54, Tryz.ntmps54
  go_wp2_with (go_at_call 50; refine HM.out.mono ?_; rintro e w1 ⟨rfl, rfl⟩)
  have r3 := heap_setCell_same _ w.heap.size 3 _ _ (.map none) (heap_setCell_same _ w.heap.size 2 _ _ (.map none) (heap_setCell_same _ w.heap.size 1 _ _ (.map none) (heap_setCell_same w1 w.heap.size 0 _ _ (.slice none 0 0) HR.out)))
  have z0 := cells_at r3 0 _ rfl
  have z1 := cells_at r3 1 _ rfl
  have z2 := cells_at r3 2 _ rfl
  have z3 := cells_at r3 3 _ rfl
  refine bodyPost_ret (v := .agg #[.slice none 0 0, .map none, .map none, .map none]) (by simp [results, Tryz.f54, go_sem, z0, z1, z2, z3]) rfl ?_
  exact ⟨rfl, (((HB.out.setCell (p := ⟨w.heap.size, 0, none⟩) (by simp) _).setCell (p := ⟨w.heap.size, 1, none⟩) (by simp) _).setCell (p := ⟨w.heap.size, 2, none⟩) (by simp) _).setCell (p := ⟨w.heap.size, 3, none⟩) (by simp) _⟩
set_option maxRecDepth 100000 in
set_option maxHeartbeats 1000000 in
theorem len_row (S : Nat) (a : Option Addr) (n k : Nat) (m1 m2 m3 : Option Nat) (w : World) (h : w.heap[S]? = some (.cells #[.slice a n k, .map m1, .map m2, .map m3, .pointer (some ⟨S, 0, none⟩)] 59 (0, 0))) : Calls Tryz.prog 18 #[.pointer (some ⟨S, 0, none⟩)] w fun e w' => e = .returned (.int .i64 n) ∧ Below w.heap.size w w' := by
  have HC := Lib.hid (content_row S a n k m1 m2 m3 w h)
  have hfld : ∀ u : World, (Instr.field 57 (.agg #[.slice a n k, .map m1, .map m2, .map m3]) 0).run Tryz.prog u = .ok (.slice a n k) u := fun u => by kernel_rfl
  clear h
  go_enter Tryz.func18, Tryz.ntmps18
  go_wp2_with (first | (go_at_call 54; refine HC.out.mono ?_; rintro e w1 ⟨rfl, hb⟩; have HB := Lib.hid hb; clear hb HC) | (go_at_call 52; refine (count_any _ a n k rfl _).mono ?_; rintro e w2 ⟨rfl, rfl⟩))
  go_ret
  exact ⟨rfl, HB.out⟩
set_option maxRecDepth 100000 in
set_option maxHeartbeats 1000000 in
theorem len_no (v : Value) (w : World) (h : NoSt w v) : Calls Tryz.prog 18 #[v] w fun e w' => e = .returned (.int .i64 0) ∧ Below w.heap.size w w' := by
  have HC := Lib.hid (content_no v w h)
  have hfld : ∀ u : World, (Instr.field 57 (.agg #[.slice none 0 0, .map none, .map none, .map none]) 0).run Tryz.prog u = .ok (.slice none 0 0) u := fun u => by kernel_rfl
  clear h
  go_enter Tryz.func18, Tryz.ntmps18
  go_wp2_with (first | (go_at_call 54; refine HC.out.mono ?_; rintro e w1 ⟨rfl, hb⟩; have HB := Lib.hid hb; clear hb HC) | (go_at_call 52; refine (count_any _ none 0 0 rfl _).mono ?_; rintro e w2 ⟨rfl, rfl⟩))
  go_ret
  exact ⟨rfl, HB.out⟩
end Go.Proofs.YtcoieohbmkjpoaaGreatDoor
namespace Go.Proofs.YtcoieohbmkjpoaaGreatDoor
open Go.RowKit

/-- What operation i owes: it is done, or struck out. -/
def StepOr (P : Program) (ops : Array Oper) (Q : Exit → Act → World → Prop) (Φ : Facts) (a0 : Act) (w0 : World) (i : Nat) (o : Oper) : Prop :=
  ∀ a w, Below w0.heap.size w0 w → a.defers = a0.defers → a.tmps.size = a0.tmps.size →
    (∀ t, noDst ops t = true → a.tmps.getD t undef = a0.tmps.getD t undef) →
    (∀ j oj d, waitsFor o j = true → ops[j]? = some oj → oj.dst = some d → Φ j (a.tmps.getD d undef) w) →
    (Region.wanted o (yielded ops a.tmps) = true ∧ o.wp P a w (Stepped Φ i o a w) Q) ∨ (Region.wanted o (yielded ops a.tmps) = false ∧ ∀ d, o.dst = some d → Φ i undef w)

theorem wp_region_grow_or {P : Program} {ops : Array Oper} {Q : Exit → Act → World → Prop} {id : Nat} {a0 : Act} {w0 : World} (hm : P.follows .mixedOrders = true) (Φ : Facts) (hst : ∀ i v w w', Φ i v w → Below w.heap.size w w' → Φ i v w')
    (hok : regionOk ops a0.tmps.size = true) (step : ∀ i o, ops[i]? = some o → StepOr P ops Q Φ a0 w0 i o)
    (fin : ∀ a w, RegInv ops Φ a0 w0 (Array.replicate ops.size true) a w → Q .normal a w) : (Code.region id ops true).wp P Q a0 w0 := by
  refine wp_region_any hm (wpAny_inv hok (RegInv ops Φ a0 w0) (fun _ _ _ h => h.size) ?_ fin ops.size _ a0 _ RegInv.start ?_)
  · intro l a w i o hJ hil ho hie
    rcases step i o ho a w hJ.below hJ.defers hJ.tmps hJ.outer (fun j oj d hwt hoj hd => by obtain ⟨e, he, hej, hb⟩ := waitsFor_spec hwt; exact hJ.facts j oj d hoj (hej ▸ hie e he hb) hd) with ⟨hw, hwp⟩ | ⟨hw, hv⟩
    · unfold wpOp
      simp only [ho, hw, if_true]
      refine Or.inl (Oper.wp_mono ?_ hwp)
      rintro a' w' ⟨v, rfl, hb, hv⟩
      exact hJ.put hst hok ho hb hv
    · unfold wpOp
      simp only [ho, hw, Bool.false_eq_true, if_false]
      exact hJ.put hst hok ho (Below.refl _ _) hv
  · exact Nat.le_trans (List.length_filter_le _ _) (by simp)

def StepsOr (P : Program) (ops : Array Oper) (Q : Exit → Act → World → Prop) (Φ : Facts) (a0 : Act) (w0 : World) : Nat → List Oper → Prop
  | _, [] => True
  | i, o :: r => StepOr P ops Q Φ a0 w0 i o ∧ StepsOr P ops Q Φ a0 w0 (i + 1) r
theorem stepsOr_get {P : Program} {ops : Array Oper} {Q : Exit → Act → World → Prop} {Φ : Facts} {a0 : Act} {w0 : World} : ∀ {l : List Oper} {k : Nat}, StepsOr P ops Q Φ a0 w0 k l → ∀ i o, l[i]? = some o → StepOr P ops Q Φ a0 w0 (k + i) o
  | [], _, _, i, o, h => by simp at h
  | x :: r, k, hs, i, o, h => by
    cases i with
    | zero => simp at h; subst h; exact hs.1
    | succ i =>
      have := stepsOr_get hs.2 i o (by simpa using h)
      rwa [show k + 1 + i = k + (i + 1) by omega] at this
theorem steps_or {P : Program} {ops : Array Oper} {Q : Exit → Act → World → Prop} {Φ : Facts} {a0 : Act} {w0 : World} (H : StepsOr P ops Q Φ a0 w0 0 ops.toList) : ∀ i o, ops[i]? = some o → StepOr P ops Q Φ a0 w0 i o := by
  intro i o ho
  have := stepsOr_get H i o (by simpa using ho)
  rwa [Nat.zero_add] at this

/-- What a slot stands for: a value; a value if a condition holds; anything with a property. -/
inductive Du where
  | val (v : Value) | opt (b : Bool) (v : Value) | pred (p : Value → Prop)
def Du.holds (v : Value) : Du → Prop
  | .val u => v = u
  | .opt b u => b = true → v = u
  | .pred p => p v
def FU (ds : List Du) : Facts := fun i v _ => match ds[i]? with
  | some d => d.holds v
  | none => True
theorem FU_grow (ds : List Du) (i : Nat) (v : Value) (w w' : World) (h : FU ds i v w) (_ : Below w.heap.size w w') : FU ds i v w' := h
theorem FU_at {ds : List Du} {i : Nat} {v : Value} {w : World} (d : Du) (hd : ds[i]? = some d) (h : FU ds i v w) : d.holds v := by
  unfold FU at h
  rw [hd] at h
  exact h
theorem FU_mk {ds : List Du} {i : Nat} {v : Value} {w : World} (d : Du) (hd : ds[i]? = some d) (h : d.holds v) : FU ds i v w := by
  unfold FU
  rw [hd]
  exact h
theorem uval_at {ops : Array Oper} {ds : List Du} {o : Oper} {a : Act} {w : World} (hp : HP ops (FU ds) o a w) (j d : Nat) {u : Value} (h : fromOp ops o j d = true) (hd : ds[j]? = some (.val u)) : a.tmps.getD d undef = u := FU_at _ hd (facts_at hp j d h)
theorem uopt_at {ops : Array Oper} {ds : List Du} {o : Oper} {a : Act} {w : World} (hp : HP ops (FU ds) o a w) (j d : Nat) {b : Bool} {u : Value} (h : fromOp ops o j d = true) (hd : ds[j]? = some (.opt b u)) (hb : b = true) : a.tmps.getD d undef = u := FU_at _ hd (facts_at hp j d h) hb
theorem upred_at {ops : Array Oper} {ds : List Du} {o : Oper} {a : Act} {w : World} (hp : HP ops (FU ds) o a w) (j d : Nat) {p : Value → Prop} (h : fromOp ops o j d = true) (hd : ds[j]? = some (.pred p)) : p (a.tmps.getD d undef) := FU_at _ hd (facts_at hp j d h)
theorem wanted_yes {o : Oper} {y : Nat → Option Bool} {k : Nat} {b : Bool} (hg : o.guard = some (k, b)) (hy : y k = some b) : Region.wanted o y = true := by
  unfold Region.wanted
  rw [hg]
  simp [hy]
theorem wanted_no {o : Oper} {y : Nat → Option Bool} {k : Nat} {b : Bool} (hg : o.guard = some (k, b)) (hy : y k = some (!b)) : Region.wanted o y = false := by
  unfold Region.wanted
  rw [hg]
  cases b <;> simp [hy]
end Go.Proofs.YtcoieohbmkjpoaaGreatDoor
