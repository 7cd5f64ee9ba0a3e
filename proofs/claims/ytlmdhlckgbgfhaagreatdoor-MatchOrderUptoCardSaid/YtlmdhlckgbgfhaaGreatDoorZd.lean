/- Texts that belong together: A region that draws its order and whose operations only add to memory: one proof for each operation serves every order. A region that draws its order and only adds to memory, where guards may strike operations out. A region whose order is fixed: one proof for each operation, where a guard may strike it out; no path is split. A region that draws its order: a head whose operations only add to memory -/
import Derived.Test.YtlmdhlckgbgfhaaGreatDoorZa
import Derived.Test.YtlmdhlckgbgfhaaGreatDoorZc
import Derived.Test.YtlmdhlckgbgfhaaGreatDoorShelf
import Derived.Test.YtlmdhlckgbgfhaaGreatDoorProg
import Derived.Orders
import Derived.WalkKit
import Derived.RangeFuncBox
import Derived.IntWalk
import Derived.Deep.AppendLies
import Derived.Lib.Hide
import Derived.Deep.QuietTactic
import Derived.BigQuiet
import Derived.WalkLawsBesides
import Derived.RangeFuncRecord
set_option maxRecDepth 100000
set_option maxHeartbeats 400000000
namespace Go.Proofs.YtlmdhlckgbgfhaaGreatDoor
open Go.RowKit

def regionOk (ops : Array Oper) (n : Nat) : Bool := (List.range ops.size).all fun i =>
 match ops[i]? with
 | some o => (o.after.all fun e => decide (e.on < i)) && (match o.dst with
   | some d => decide (d < n) && (List.range i).all fun j => ((ops[j]?).bind (·.dst)) != some d
   | none => true)
 | none => true

theorem regionOk_spec {ops : Array Oper} {n : Nat} (h : regionOk ops n = true) (i : Nat) (o : Oper) (ho : ops[i]? = some o) :
   (∀ e ∈ o.after, e.on < i) ∧ ∀ d, o.dst = some d → d < n ∧ ∀ j oj, j < i → ops[j]? = some oj → oj.dst ≠ some d := by
 have hi : i < ops.size := (gL ho)
 have h1 := List.all_eq_true.1 h i (List.mem_range.2 hi)
 simp only [ho, Bool.and_eq_true, Array.all_eq_true_iff_forall_mem, decide_eq_true_eq] at h1
 refine ⟨h1.1, fun d hd => ?_⟩
 have h2 := h1.2
 simp only [hd, Bool.and_eq_true, decide_eq_true_eq, List.all_eq_true, List.mem_range, bne_iff_ne, ne_eq] at h2
 refine ⟨h2.1, fun j oj hj hoj e => h2.2 j hj ?_⟩
 simp [hoj, e]

def noDst (ops : Array Oper) (t : Tmp) : Bool := ops.all fun o => o.dst != some t
theorem noDst_spec {ops : Array Oper} {t : Tmp} (h : noDst ops t = true) (i : Nat) (o : Oper) (ho : ops[i]? = some o) : o.dst ≠ some t := by
 unfold noDst at h
 rw [Array.all_eq_true_iff_forall_mem] at h
 have := h o (Array.mem_of_getElem? ho)
 simpa using this
def waitsFor (o : Oper) (j : Nat) : Bool := o.after.any fun e => e.on == j && Region.binds .any e
theorem waitsFor_spec {o : Oper} {j : Nat} (h : waitsFor o j = true) : ∃ e ∈ o.after, e.on = j ∧ Region.binds .any e = true := by
 unfold waitsFor at h
 obtain ⟨k, hk, h⟩ := Array.any_eq_true.1 h
 simp only [Bool.and_eq_true, beq_iff_eq] at h
 exact ⟨o.after[k], Array.getElem_mem hk, h.1, h.2⟩
theorem yielded_bool {ops : Array Oper} {tmps : Array Value} {j d : Nat} {b : Bool} {o : Oper} (ho : ops[j]? = some o) (hd : o.dst = some d) (hv : tmps.getD d undef = .bool b) : yielded ops tmps j = some b := by
 have : tmps[d]? = some (.bool b) := by
   rw [Array.getD_eq_getD_getElem?] at hv
   cases h : tmps[d]? with
   | none => rw [h] at hv; cases hv
   | some v => rw [h] at hv; simpa using hv
 simp [yielded, ho, hd, this]

abbrev Facts := Nat → Value → World → Prop

structure RegInv (ops : Array Oper) (Φ : Facts) (a0 : Act) (w0 : World) (listed : Array Bool) (a : Act) (w : World) : Prop where
 size : listed.size = ops.size
 below : Below w0.heap.size w0 w
 defers : a.defers = a0.defers
 tmps : a.tmps.size = a0.tmps.size
 outer : ∀ t, noDst ops t = true → a.tmps.getD t undef = a0.tmps.getD t undef
 facts : ∀ i o d, ops[i]? = some o → listed.getD i false = true → o.dst = some d → Φ i (a.tmps.getD d undef) w

def Stepped (Φ : Facts) (i : Nat) (o : Oper) (a : Act) (w : World) (a' : Act) (w' : World) : Prop := ∃ v, a' = a.put o.dst v ∧ Below w.heap.size w w' ∧ ∀ d, o.dst = some d → Φ i v w'
theorem Stepped.at {Φ : Facts} {i : Nat} {o : Oper} {a : Act} {w w' : World} {v : Value} {tm : Array Value} {df : List Deferred} (hv : tm = (a.put o.dst v).tmps) (hf : a.defers = df) (hb : Below w.heap.size w w') (hΦ : Φ i v w') :
   Stepped Φ i o a w ⟨tm, df⟩ w' := by
 refine ⟨v, ?_, hb, fun _ _ => hΦ⟩
 subst hv hf
 cases o.dst <;> rfl
theorem wpAny_inv {P : Program} {ops : Array Oper} {Q : Exit → Act → World → Prop} {n : Nat} (hok : regionOk ops n = true) (J : Array Bool → Act → World → Prop) (hsize : ∀ l a w, J l a w → l.size = ops.size)
   (step : ∀ l a w i o, J l a w → l.getD i true = false → ops[i]? = some o → (∀ e ∈ o.after, Region.binds .any e = true → l.getD e.on false = true) → wpOp P ops Q i (fun a' w' => J (l.setIfInBounds i true) a' w') a w)
   (fin : ∀ a w, J (Array.replicate ops.size true) a w → Q .normal a w) :
   ∀ (fuel : Nat) (listed : Array Bool) (a : Act) (w : World), J listed a w → ((List.range ops.size).filter fun i => !listed.getD i true).length ≤ fuel →
     wpAny P .any ops Q fuel listed a w := by
 have hend : ∀ (listed : Array Bool) (a : Act) (w : World), J listed a w → Region.ready .any ops listed = [] → Q .normal a w := by
   intro listed a w hJ hr
   have hall : ∀ i, i < ops.size → listed.getD i true = true := by
     intro i
     induction i using Nat.strongRecOn with
     | _ i ih =>
       intro hi
       by_cases hl : listed.getD i true = true
       · exact hl
       · exfalso
         have hmem : i ∈ Region.ready .any ops listed := by
           unfold Region.ready
           obtain ⟨o, ho⟩ : ∃ o, ops[i]? = some o := ⟨ops[i], Array.getElem?_eq_getElem hi⟩
           refine List.mem_filter.2 ⟨List.mem_range.2 hi, ?_⟩
           simp only [ho, Option.map_some, Option.getD_some, Bool.and_eq_true, Bool.not_eq_true', Array.all_eq_true_iff_forall_mem, Bool.or_eq_true]
           refine ⟨by simpa using hl, fun e he => Or.inr ?_⟩
           have hlt := (regionOk_spec hok i o ho).1 e he
           have := ih e.on hlt (by omega)
           have hs : e.on < listed.size := by rw [hsize _ _ _ hJ]; omega
           simp only [Array.getD, hs, dif_pos] at this ⊢
           exact this
         rw [hr] at hmem
         cases hmem
   have heq : listed = Array.replicate ops.size true := by
     apply Array.ext
     · rw [hsize _ _ _ hJ, Array.size_replicate]
     · intro i h1 h2
       have := hall i (by rw [← hsize _ _ _ hJ]; exact h1)
       simp only [Array.getD, h1, dif_pos] at this
       simpa using this
   exact fin a w (heq ▸ hJ)
 intro fuel
 induction fuel with
 | zero =>
   intro listed a w hJ hf
   have hr : Region.ready .any ops listed = [] := by
     unfold Region.ready
     rw [List.filter_eq_nil_iff]
     intro i hi h
     have hnil := List.length_eq_zero_iff.1 (Nat.le_zero.1 hf)
     rw [List.filter_eq_nil_iff] at hnil
     simp only [Bool.and_eq_true] at h
     exact hnil i hi h.1
   exact ⟨hr, hend listed a w hJ hr⟩
 | succ fuel ih =>
   intro listed a w hJ hf
   refine ⟨hend listed a w hJ, fun i hi => ?_⟩
   unfold Region.ready at hi
   obtain ⟨hir, hib⟩ := List.mem_filter.1 hi
   have hi' : i < ops.size := List.mem_range.1 hir
   obtain ⟨o, ho⟩ : ∃ o, ops[i]? = some o := ⟨ops[i], Array.getElem?_eq_getElem hi'⟩
   simp only [ho, Option.map_some, Option.getD_some, Bool.and_eq_true, Bool.not_eq_true', Array.all_eq_true_iff_forall_mem, Bool.or_eq_true] at hib
   obtain ⟨hil, hie⟩ := hib
   refine wpOp_mono ?_ (step listed a w i o hJ hil ho (fun e he hb => (hie e he).resolve_left (by rw [hb]; decide)))
   intro a' w' hJ'
   have hls : i < listed.size := by rw [hsize _ _ _ hJ]; exact hi'
   refine ih _ _ _ hJ' ?_
   have hlt : ((List.range ops.size).filter fun j => !(listed.setIfInBounds i true).getD j true).length < ((List.range ops.size).filter fun j => !listed.getD j true).length := by
     have hsub : ((List.range ops.size).filter fun j => !(listed.setIfInBounds i true).getD j true) = ((List.range ops.size).filter fun j => !listed.getD j true).filter (fun j => j != i) := by
       rw [List.filter_filter]
       apply List.filter_congr
       intro j hj
       by_cases e : j = i
       · subst e; simp [Array.getD_eq_getD_getElem?, hls]
       · simp [Array.getD_eq_getD_getElem?, Array.getElem?_setIfInBounds_ne (fun h => e h.symm), e]
     rw [hsub]
     refine List.length_filter_lt_length_iff_exists.2 ⟨i, List.mem_filter.2 ⟨List.mem_range.2 hi', by simpa using hil⟩, by simp⟩
   omega

theorem RegInv.put {ops : Array Oper} {Φ : Facts} {a0 : Act} {w0 : World} (hst : ∀ i v w w', Φ i v w → Below w.heap.size w w' → Φ i v w') (hok : regionOk ops a0.tmps.size = true)
   {listed : Array Bool} {a : Act} {w : World} (hJ : RegInv ops Φ a0 w0 listed a w) {i : Nat} {o : Oper} (ho : ops[i]? = some o) {v : Value} {w' : World} (hb : Below w.heap.size w w') (hv : ∀ d, o.dst = some d → Φ i v w') :
   RegInv ops Φ a0 w0 (listed.setIfInBounds i true) (a.put o.dst v) w' := by
 refine ⟨by simp [hJ.size], hJ.below.trans (hb.mono hJ.below.size), ?_, ?_, ?_, ?_⟩
 · rw [← hJ.defers]; cases o.dst <;> rfl
 · rw [← hJ.tmps]; cases o.dst <;> simp [Act.put]
 · intro t ht
   rw [← hJ.outer t ht]
   cases hd : o.dst with
   | none => rfl
   | some d =>
     have hne : d ≠ t := fun e => noDst_spec ht i o ho (by rw [hd, e])
     simp [Act.put, Array.getD_eq_getD_getElem?, Array.getElem?_setIfInBounds_ne hne]
 · intro j oj d hoj hlj hd
   by_cases hji : j = i
   · subst hji
     obtain rfl : oj = o := by rw [ho] at hoj; exact (Option.some.inj hoj).symm
     have hdn := ((regionOk_spec hok j oj ho).2 d hd).1
     rw [hd]
     have e : (a.put (some d) v).tmps.getD d undef = v := by
       have : d < a.tmps.size := by rw [hJ.tmps]; exact hdn
       simp [Act.put, Array.getD_eq_getD_getElem?, this]
     rw [e]
     exact hv d hd
   · have hlj' : listed.getD j false = true := by
       simpa [Array.getD_eq_getD_getElem?, Array.getElem?_setIfInBounds_ne (fun e => hji e.symm)] using hlj
     have hf0 := hst _ _ _ _ (hJ.facts j oj d hoj hlj' hd) hb
     cases hd' : o.dst with
     | none => exact hf0
     | some d' =>
       have hne : d' ≠ d := by
         intro e
         subst e
         rcases Nat.lt_or_gt_of_ne hji with h | h
         · exact ((regionOk_spec hok i o ho).2 d' hd').2 j oj h hoj hd
         · exact ((regionOk_spec hok j oj hoj).2 d' hd).2 i o h ho hd'
       simpa [Act.put, Array.getD_eq_getD_getElem?, Array.getElem?_setIfInBounds_ne hne] using hf0

theorem RegInv.start {ops : Array Oper} {Φ : Facts} {a0 : Act} {w0 : World} : RegInv ops Φ a0 w0 (Array.replicate ops.size false) a0 { w0 with drawn := w0.drawn + 1 } := by
 refine ⟨by simp, (Below.refl _ w0).drew, rfl, rfl, fun _ _ => rfl, ?_⟩
 intro i o d ho hl _
 have hi := (gL ho)
 simp [Array.getD_eq_getD_getElem?, hi] at hl

abbrev HP (ops : Array Oper) (Φ : Facts) (o : Oper) (a : Act) (w : World) : Prop := ∀ j oj d, waitsFor o j = true → ops[j]? = some oj → oj.dst = some d → Φ j (a.tmps.getD d undef) w
def dstAt (ops : Array Oper) (j d : Nat) : Bool := match ops[j]? with
 | some oj => oj.dst == some d
 | none => false
def fromOp (ops : Array Oper) (o : Oper) (j d : Nat) : Bool := waitsFor o j && dstAt ops j d
theorem dstAt_spec {ops : Array Oper} {j d : Nat} (h : dstAt ops j d = true) : ∃ oj, ops[j]? = some oj ∧ oj.dst = some d := by
 unfold dstAt at h
 cases ho : ops[j]? with
 | none => rw [ho] at h; cases h
 | some oj => rw [ho] at h; exact ⟨oj, rfl, by simpa using h⟩
theorem facts_at {ops : Array Oper} {Φ : Facts} {o : Oper} {a : Act} {w : World} (hp : HP ops Φ o a w) (j d : Nat) (h : fromOp ops o j d = true) : Φ j (a.tmps.getD d undef) w := by
 unfold fromOp at h
 rw [Bool.and_eq_true] at h
 obtain ⟨oj, h1, h2⟩ := dstAt_spec h.2
 exact hp j oj d h.1 h1 h2
theorem RegInv.at_end {ops : Array Oper} {Φ : Facts} {a0 a : Act} {w0 w : World} (hJ : RegInv ops Φ a0 w0 (Array.replicate ops.size true) a w) (j d : Nat) (h : dstAt ops j d = true) : Φ j (a.tmps.getD d undef) w := by
 obtain ⟨oj, h1, h2⟩ := dstAt_spec h
 have hj := (gL h1)
 exact hJ.facts j oj d h1 (by simp [Array.getD_eq_getD_getElem?, hj]) h2
theorem wpOp_of {P : Program} {ops : Array Oper} {Q : Exit → Act → World → Prop} {R : Act → World → Prop} {i : Nat} {o : Oper} {a : Act} {w : World} (ho : ops[i]? = some o) (hg : o.guard = none) (h : o.wp P a w R Q) : wpOp P ops Q i R a w := by
 have hw : Region.wanted o (yielded ops a.tmps) = true := by unfold Region.wanted; rw [hg]
 unfold wpOp
 simp only [ho, hw, if_true]
 exact Or.inl h
end Go.Proofs.YtlmdhlckgbgfhaaGreatDoor
namespace Go.Proofs.YtlmdhlckgbgfhaaGreatDoor
open Go.RowKit

def StepOr (P : Program) (ops : Array Oper) (Q : Exit → Act → World → Prop) (Φ : Facts) (a0 : Act) (w0 : World) (i : Nat) (o : Oper) : Prop :=
 ∀ a w, Below w0.heap.size w0 w → a.defers = a0.defers → a.tmps.size = a0.tmps.size →
   (∀ t, noDst ops t = true → a.tmps.getD t undef = a0.tmps.getD t undef) →
   (∀ j oj d, waitsFor o j = true → ops[j]? = some oj → oj.dst = some d → Φ j (a.tmps.getD d undef) w) →
   (Region.wanted o (yielded ops a.tmps) = true ∧ o.wp P a w (Stepped Φ i o a w) Q) ∨ (Region.wanted o (yielded ops a.tmps) = false ∧ ∀ d, o.dst = some d → Φ i undef w)

theorem wp_region_grow_or {P : Program} {ops : Array Oper} {Q : Exit → Act → World → Prop} {id : Nat} {a0 : Act} {w0 : World} (hm : P.follows .mixedOrders = true) (Φ : Facts) (hst : ∀ i v w w', Φ i v w → Below w.heap.size w w' → Φ i v w')
   (hok : regionOk ops a0.tmps.size = true) (step : ∀ i o, ops[i]? = some o → StepOr P ops Q Φ a0 w0 i o)
   (fin : ∀ a w, RegInv ops Φ a0 w0 (Array.replicate ops.size true) a w → Q .normal a w) : (Code.region id ops true).wp P Q a0 w0 := by
 refine wp_region_any hm (wpAny_inv hok (RegInv ops Φ a0 w0) (fun _ _ _ h => h.size) ?_ fin ops.size _ a0 _ RegInv.start ?_)
 · intro l a w i o hJ hil ho hie
   rcases step i o ho a w hJ.below hJ.defers hJ.tmps hJ.outer (fun j oj d hwt hoj hd => by obtain ⟨e, he, hej, hb⟩ := waitsFor_spec hwt; exact hJ.facts j oj d hoj (hej ▸ hie e he hb) hd) with ⟨hw, hwp⟩ | ⟨hw, hv⟩
   · unfold wpOp
     simp only [ho, hw, if_true]
     refine Or.inl (Oper.wp_mono ?_ hwp)
     rintro a' w' ⟨v, rfl, hb, hv⟩
     exact hJ.put hst hok ho hb hv
   · unfold wpOp
     simp only [ho, hw, Bool.false_eq_true, if_false]
     exact hJ.put hst hok ho bR hv
 · exact Nat.le_trans (List.length_filter_le _ _) (by simp)

def StepsOr (P : Program) (ops : Array Oper) (Q : Exit → Act → World → Prop) (Φ : Facts) (a0 : Act) (w0 : World) : Nat → List Oper → Prop
 | _, [] => True
 | i, o :: r => StepOr P ops Q Φ a0 w0 i o ∧ StepsOr P ops Q Φ a0 w0 (i + 1) r
theorem stepsOr_get {P : Program} {ops : Array Oper} {Q : Exit → Act → World → Prop} {Φ : Facts} {a0 : Act} {w0 : World} : ∀ {l : List Oper} {k : Nat}, StepsOr P ops Q Φ a0 w0 k l → ∀ i o, l[i]? = some o → StepOr P ops Q Φ a0 w0 (k + i) o
 | [], _, _, i, o, h => by simp at h
 | x :: r, k, hs, i, o, h => by
   cases i with
   | zero => simp at h; subst h; exact hs.1
   | succ i =>
     have := stepsOr_get hs.2 i o (by simpa using h)
     rwa [show k + 1 + i = k + (i + 1) by omega] at this
theorem steps_or {P : Program} {ops : Array Oper} {Q : Exit → Act → World → Prop} {Φ : Facts} {a0 : Act} {w0 : World} (H : StepsOr P ops Q Φ a0 w0 0 ops.toList) : ∀ i o, ops[i]? = some o → StepOr P ops Q Φ a0 w0 i o := by
 intro i o ho
 have := stepsOr_get H i o (by simpa using ho)
 rwa [Nat.zero_add] at this

inductive Du where
 | val (v : Value) | opt (b : Bool) (v : Value) | pred (p : Value → Prop)
def Du.holds (v : Value) : Du → Prop
 | .val u => v = u
 | .opt b u => b = true → v = u
 | .pred p => p v
def FU (ds : List Du) : Facts := fun i v _ => match ds[i]? with
 | some d => d.holds v
 | none => True
theorem FU_grow (ds : List Du) (i : Nat) (v : Value) (w w' : World) (h : FU ds i v w) (_ : Below w.heap.size w w') : FU ds i v w' := h
theorem FU_at {ds : List Du} {i : Nat} {v : Value} {w : World} (d : Du) (hd : ds[i]? = some d) (h : FU ds i v w) : d.holds v := by
 unfold FU at h
 rw [hd] at h
 exact h
theorem FU_mk {ds : List Du} {i : Nat} {v : Value} {w : World} (d : Du) (hd : ds[i]? = some d) (h : d.holds v) : FU ds i v w := by
 unfold FU
 rw [hd]
 exact h
theorem uval_at {ops : Array Oper} {ds : List Du} {o : Oper} {a : Act} {w : World} (hp : HP ops (FU ds) o a w) (j d : Nat) {u : Value} (h : fromOp ops o j d = true) (hd : ds[j]? = some (.val u)) : a.tmps.getD d undef = u := FU_at _ hd (facts_at hp j d h)
end Go.Proofs.YtlmdhlckgbgfhaaGreatDoor
namespace Go.Proofs.YtlmdhlckgbgfhaaGreatDoor
open Go.RowKit

abbrev HI (ops : Array Oper) (Φ : Facts) (i : Nat) (a : Act) (w : World) : Prop := ∀ j oj d, j < i → ops[j]? = some oj → oj.dst = some d → Φ j (a.tmps.getD d undef) w
def gon (c x b : Bool) : Bool := c && (x == b)
theorem gon_r {c x b : Bool} (h : gon c x b = true) : x = b := by unfold gon at h; simp at h; exact h.2
theorem gon_mk {c x b : Bool} (h : c = true) (h' : x = b) : gon c x b = true := by unfold gon; simp [h, h']
theorem wanted_gon {ops : Array Oper} {tmps : Array Value} {o : Oper} {k d : Nat} {c x b : Bool} (hg : o.guard = some (k, b)) (hd : dstAt ops k d = true) (hk : tmps.getD d undef = cond c (.bool x) undef) : Region.wanted o (yielded ops tmps) = gon c x b := by
 obtain ⟨oj, h1, h2⟩ := dstAt_spec hd
 unfold Region.wanted
 rw [hg]
 cases c with
 | true =>
   have := yielded_bool h1 h2 (b := x) hk
   simp only [this]
   unfold gon
   cases x <;> cases b <;> rfl
 | false =>
   have : yielded ops tmps k = none := by
     rw [Array.getD_eq_getD_getElem?] at hk
     cases ht : tmps[d]? with
     | none => simp [yielded, h1, h2, ht]
     | some v =>
       rw [ht] at hk
       simp only [Option.getD_some, cond_false] at hk
       subst hk
       simp [yielded, h1, h2, ht, undef]
   simp only [this]
   unfold gon
   cases x <;> cases b <;> rfl
theorem gon_or {ops : Array Oper} {tmps : Array Value} {o : Oper} {k d : Nat} {c x b : Bool} {A : Prop} {B : Nat → Prop} (hg : o.guard = some (k, b)) (hd : dstAt ops k d = true) (hk : tmps.getD d undef = cond c (.bool x) undef) (no : gon c x b = false → ∀ e, o.dst = some e → B e) (yes : gon c x b = true → A) :
   (Region.wanted o (yielded ops tmps) = true ∧ A) ∨ (Region.wanted o (yielded ops tmps) = false ∧ ∀ e, o.dst = some e → B e) := by
 have hw := wanted_gon hg hd hk
 cases h : gon c x b with
 | true => exact Or.inl ⟨hw.trans h, yes h⟩
 | false => exact Or.inr ⟨hw.trans h, no h⟩
theorem gon_or1 {ops : Array Oper} {tmps : Array Value} {o : Oper} {k d : Nat} {x b : Bool} {A : Prop} {B : Nat → Prop} (hg : o.guard = some (k, b)) (hd : dstAt ops k d = true) (hk : tmps.getD d undef = .bool x) (no : gon true x b = false → ∀ e, o.dst = some e → B e) (yes : gon true x b = true → A) :
   (Region.wanted o (yielded ops tmps) = true ∧ A) ∨ (Region.wanted o (yielded ops tmps) = false ∧ ∀ e, o.dst = some e → B e) := gon_or (c := true) hg hd hk no yes
end Go.Proofs.YtlmdhlckgbgfhaaGreatDoor
namespace Go.Proofs.YtlmdhlckgbgfhaaGreatDoor
open Go.RowKit

def waitsT (ops : Array Oper) : Nat → Nat → Nat → Bool
 | 0, _, _ => false
 | f + 1, i, j => match ops[i]? with
   | some o => o.after.any fun e => Region.binds .any e && (e.on == j || waitsT ops f e.on j)
   | none => false
def tailOk (ops : Array Oper) (n : Nat) : Bool := decide (n < ops.size) && (List.range ops.size).all fun m => decide (m < n) || (List.range m).all fun j => waitsT ops ops.size m j
theorem tailOk_lt {ops : Array Oper} {n : Nat} (h : tailOk ops n = true) : n < ops.size := by
 unfold tailOk at h
 rw [Bool.and_eq_true] at h
 simpa using h.1
theorem tailOk_spec {ops : Array Oper} {n : Nat} (h : tailOk ops n = true) (m : Nat) (hm : m < ops.size) (hn : n ≤ m) (j : Nat) (hj : j < m) : waitsT ops ops.size m j = true := by
 unfold tailOk at h
 rw [Bool.and_eq_true] at h
 have h1 := List.all_eq_true.1 h.2 m (List.mem_range.2 hm)
 rw [Bool.or_eq_true] at h1
 rcases h1 with h1 | h1
 · have := of_decide_eq_true h1; omega
 · exact List.all_eq_true.1 h1 j (List.mem_range.2 hj)

def ListedOk (ops : Array Oper) (l : Array Bool) : Prop := ∀ i o, ops[i]? = some o → l.getD i false = true → ∀ e ∈ o.after, Region.binds .any e = true → l.getD e.on false = true
theorem waits_listed {ops : Array Oper} {l : Array Bool} (hl : ListedOk ops l) (j : Nat) : ∀ (f i : Nat) (o : Oper), ops[i]? = some o → (∀ e ∈ o.after, Region.binds .any e = true → l.getD e.on false = true) → waitsT ops f i j = true → l.getD j false = true := by
 intro f
 induction f with
 | zero => intro i o _ _ h; simp [waitsT] at h
 | succ f ih =>
   intro i o ho he h
   simp only [waitsT, ho] at h
   obtain ⟨k, hk, h⟩ := Array.any_eq_true.1 h
   rw [Bool.and_eq_true, Bool.or_eq_true] at h
   have h1 := he _ (Array.getElem_mem hk) h.1
   rcases h.2 with h2 | h2
   · have e : o.after[k].on = j := by simpa using h2
     rw [← e]; exact h1
   · cases hq : ops[o.after[k].on]? with
     | none => cases f <;> simp [waitsT, hq] at h2
     | some o' => exact ih _ o' hq (hl _ o' hq h1) h2
theorem ListedOk.set {ops : Array Oper} {l : Array Bool} (hl : ListedOk ops l) (hs : l.size = ops.size) {i : Nat} {o : Oper} (ho : ops[i]? = some o) (hie : ∀ e ∈ o.after, Region.binds .any e = true → l.getD e.on false = true) : ListedOk ops (l.setIfInBounds i true) := by
 have up : ∀ j, l.getD j false = true → (l.setIfInBounds i true).getD j false = true := by
   intro j hj
   by_cases e : j = i
   · subst e
     have : j < l.size := by rw [hs]; exact (gL ho)
     simp [Array.getD_eq_getD_getElem?, this]
   · simpa [Array.getD_eq_getD_getElem?, Array.getElem?_setIfInBounds_ne (fun h => e h.symm)] using hj
 intro j oj hoj hlj e he hb
 by_cases hji : j = i
 · subst hji
   obtain rfl : oj = o := by rw [ho] at hoj; exact (Option.some.inj hoj).symm
   exact up _ (hie e he hb)
 · have : l.getD j false = true := by simpa [Array.getD_eq_getD_getElem?, Array.getElem?_setIfInBounds_ne (fun h => hji h.symm)] using hlj
   exact up _ (hl j oj hoj this e he hb)

def noDstTo (ops : Array Oper) (n : Nat) (t : Tmp) : Bool := (ops.toList.take n).all fun o => o.dst != some t
theorem noDstTo_spec {ops : Array Oper} {n : Nat} {t : Tmp} (h : noDstTo ops n t = true) (i : Nat) (hi : i < n) (o : Oper) (ho : ops[i]? = some o) : o.dst ≠ some t := by
 unfold noDstTo at h
 have := List.all_eq_true.1 h o (by
   refine List.mem_of_getElem? (i := i) ?_
   rw [List.getElem?_take_of_lt hi]
   simpa using ho)
 simpa using this

structure HeadInvT (ops : Array Oper) (n : Nat) (Φ : Facts) (a0 : Act) (w0 : World) (listed : Array Bool) (a : Act) (w : World) : Prop where
 below : Below w0.heap.size w0 w
 defers : a.defers = a0.defers
 tmps : a.tmps.size = a0.tmps.size
 outer : ∀ t, noDstTo ops n t = true → a.tmps.getD t undef = a0.tmps.getD t undef
 facts : ∀ i o d, ops[i]? = some o → i < n → listed.getD i false = true → o.dst = some d → Φ i (a.tmps.getD d undef) w

def StepTo (P : Program) (ops : Array Oper) (n : Nat) (Q : Exit → Act → World → Prop) (Φ : Facts) (a0 : Act) (w0 : World) (i : Nat) (o : Oper) : Prop :=
 ∀ a w, Below w0.heap.size w0 w → a.defers = a0.defers → a.tmps.size = a0.tmps.size →
   (∀ t, noDstTo ops n t = true → a.tmps.getD t undef = a0.tmps.getD t undef) →
   (∀ j oj d, waitsFor o j = true → ops[j]? = some oj → oj.dst = some d → Φ j (a.tmps.getD d undef) w) →
   Region.wanted o (yielded ops a.tmps) = true ∧ o.wp P a w (Stepped Φ i o a w) Q

theorem HeadInvT.put {ops : Array Oper} {n : Nat} {Φ : Facts} {a0 : Act} {w0 : World} (hst : ∀ i v w w', Φ i v w → Below w.heap.size w w' → Φ i v w') (hok : regionOk ops a0.tmps.size = true)
   {listed : Array Bool} {a : Act} {w : World} (hJ : HeadInvT ops n Φ a0 w0 listed a w) {i : Nat} {o : Oper} (hin : i < n) (ho : ops[i]? = some o) {v : Value} {w' : World} (hb : Below w.heap.size w w') (hv : ∀ d, o.dst = some d → Φ i v w') :
   HeadInvT ops n Φ a0 w0 (listed.setIfInBounds i true) (a.put o.dst v) w' := by
 refine ⟨hJ.below.trans (hb.mono hJ.below.size), ?_, ?_, ?_, ?_⟩
 · rw [← hJ.defers]; cases o.dst <;> rfl
 · rw [← hJ.tmps]; cases o.dst <;> simp [Act.put]
 · intro t ht
   rw [← hJ.outer t ht]
   cases hd : o.dst with
   | none => rfl
   | some d =>
     have hne : d ≠ t := fun e => noDstTo_spec ht i hin o ho (by rw [hd, e])
     simp [Act.put, Array.getD_eq_getD_getElem?, Array.getElem?_setIfInBounds_ne hne]
 · intro j oj d hoj hjn hlj hd
   by_cases hji : j = i
   · subst hji
     obtain rfl : oj = o := by rw [ho] at hoj; exact (Option.some.inj hoj).symm
     have hdn := ((regionOk_spec hok j oj ho).2 d hd).1
     rw [hd]
     have e : (a.put (some d) v).tmps.getD d undef = v := by
       have : d < a.tmps.size := by rw [hJ.tmps]; exact hdn
       simp [Act.put, Array.getD_eq_getD_getElem?, this]
     rw [e]
     exact hv d hd
   · have hlj' : listed.getD j false = true := by
       simpa [Array.getD_eq_getD_getElem?, Array.getElem?_setIfInBounds_ne (fun e => hji e.symm)] using hlj
     have hf0 := hst _ _ _ _ (hJ.facts j oj d hoj hjn hlj' hd) hb
     cases hd' : o.dst with
     | none => exact hf0
     | some d' =>
       have hne : d' ≠ d := by
         intro e
         subst e
         rcases Nat.lt_or_gt_of_ne hji with h | h
         · exact ((regionOk_spec hok i o ho).2 d' hd').2 j oj h hoj hd
         · exact ((regionOk_spec hok j oj hoj).2 d' hd).2 i o h ho hd'
       simpa [Act.put, Array.getD_eq_getD_getElem?, Array.getElem?_setIfInBounds_ne hne] using hf0

theorem getD_set_ne {l : Array Bool} {i j : Nat} (h : j ≠ i) (b d : Bool) : (l.setIfInBounds i b).getD j d = l.getD j d := by
 simp [Array.getD_eq_getD_getElem?, Array.getElem?_setIfInBounds_ne (fun e => h e.symm)]
theorem getD_true_false {l : Array Bool} {i : Nat} (h : i < l.size) : l.getD i true = l.getD i false := by
 simp [Array.getD, h]

theorem wp_region_grow_tail {P : Program} {ops : Array Oper} {Q : Exit → Act → World → Prop} {id : Nat} {a0 : Act} {w0 : World} (hm : P.follows .mixedOrders = true) (n : Nat) (Φ : Facts) (hst : ∀ i v w w', Φ i v w → Below w.heap.size w w' → Φ i v w')
   (hok : regionOk ops a0.tmps.size = true) (htl : tailOk ops n = true)
   (step : ∀ i o, ops[i]? = some o → i < n → StepTo P ops n Q Φ a0 w0 i o)
   (tail : ∀ a w, Below w0.heap.size w0 w → a.defers = a0.defers → a.tmps.size = a0.tmps.size → (∀ t, noDstTo ops n t = true → a.tmps.getD t undef = a0.tmps.getD t undef) →
     (∀ i o d, ops[i]? = some o → i < n → o.dst = some d → Φ i (a.tmps.getD d undef) w) → wpList P ops Q (ops.toList.drop n) a w) : (Code.region id ops true).wp P Q a0 w0 := by
 have hlt := tailOk_lt htl
 have hcons : ∀ k o, ops[k]? = some o → ops.toList.drop k = o :: ops.toList.drop (k + 1) := by
   intro k o ho
   have hk := (gL ho)
   rw [List.drop_eq_getElem_cons (by simpa using hk)]
   congr 1
   have := (Array.getElem?_eq_some_iff.1 ho).2
   simpa using this
 refine wp_region_any hm (wpAny_inv hok (fun l a w => l.size = ops.size ∧ ListedOk ops l ∧ (((∀ j, n ≤ j → l.getD j false = false) ∧ HeadInvT ops n Φ a0 w0 l a w) ∨
   ∃ k, n < k ∧ (∀ j, j < k → j < ops.size → l.getD j false = true) ∧ (∀ j, k ≤ j → l.getD j false = false) ∧ wpList P ops Q (ops.toList.drop k) a w)) (fun _ _ _ h => h.1) ?_ ?_ ops.size _ a0 _ ⟨by simp, ?_, Or.inl ⟨?_, ?_⟩⟩ ?_)
 · rintro l a w i o ⟨hls, hcl, hJ⟩ hil ho hie
   have hi' : i < ops.size := (gL ho)
   have hil' : l.getD i false = false := by rw [← getD_true_false (by omega)]; exact hil
   have hcl' := hcl.set hls ho hie
   have hall : n ≤ i → ∀ j, j < i → l.getD j false = true := fun hni j hj => waits_listed hcl j ops.size i o ho hie (tailOk_spec htl i hi' hni j hj)
   rcases hJ with ⟨hun, hJ⟩ | ⟨k, hnk, hlk, huk, hwp⟩
   · by_cases hin : i < n
     · obtain ⟨hw, hwp⟩ := step i o ho hin a w hJ.below hJ.defers hJ.tmps hJ.outer (fun j oj d hwt hoj hd => by
         obtain ⟨e, he, hej, hb⟩ := waitsFor_spec hwt
         have hji : j < i := by rw [← hej]; exact (regionOk_spec hok i o ho).1 e he
         exact hJ.facts j oj d hoj (by omega) (hej ▸ hie e he hb) hd)
       unfold wpOp
       simp only [ho, hw, if_true]
       refine Or.inl (Oper.wp_mono ?_ hwp)
       rintro a' w' ⟨v, rfl, hb, hv⟩
       exact ⟨by simp [hls], hcl', Or.inl ⟨fun j hj => by rw [getD_set_ne (by omega)]; exact hun j hj, hJ.put hst hok hin ho hb hv⟩⟩
     · have hin' : i = n := by
         by_cases e : i = n
         · exact e
         · have h1 := hall (by omega) n (by omega)
           rw [hun n (Nat.le_refl _)] at h1; cases h1
       subst hin'
       have H := tail a w hJ.below hJ.defers hJ.tmps hJ.outer (fun j oj d hoj hj hd => hJ.facts j oj d hoj hj (hall (Nat.le_refl _) j hj) hd)
       rw [hcons i o ho] at H
       have H' : wpOp P ops Q i (wpList P ops Q (ops.toList.drop (i + 1))) a w := by
         unfold wpOp
         simp only [ho]
         exact H
       refine wpOp_mono ?_ H'
       intro a' w' hQ
       refine ⟨by simp [hls], hcl', Or.inr ⟨i + 1, by omega, fun j hj hjs => ?_, fun j hj => by rw [getD_set_ne (by omega)]; exact hun j (by omega), hQ⟩⟩
       by_cases e : j = i
       · subst e; simp [Array.getD_eq_getD_getElem?, hls, hi']
       · rw [getD_set_ne e]; exact hall (Nat.le_refl _) j (by omega)
   · have hik : i = k := by
       have h1 : k ≤ i := by
         by_cases e : k ≤ i
         · exact e
         · have := hlk i (by omega) hi'
           rw [hil'] at this; cases this
       by_cases e : i = k
       · exact e
       · have h2 := hall (by omega) k (by omega)
         rw [huk k (Nat.le_refl _)] at h2; cases h2
     subst hik
     rw [hcons i o ho] at hwp
     have H' : wpOp P ops Q i (wpList P ops Q (ops.toList.drop (i + 1))) a w := by
       unfold wpOp
       simp only [ho]
       exact hwp
     refine wpOp_mono ?_ H'
     intro a' w' hQ
     refine ⟨by simp [hls], hcl', Or.inr ⟨i + 1, by omega, fun j hj hjs => ?_, fun j hj => by rw [getD_set_ne (by omega)]; exact huk j (by omega), hQ⟩⟩
     by_cases e : j = i
     · subst e; simp [Array.getD_eq_getD_getElem?, hls, hi']
     · rw [getD_set_ne e]; exact hlk j (by omega) hjs
 · rintro a w ⟨_, _, ⟨hun, _⟩ | ⟨k, _, _, huk, hwp⟩⟩
   · have := hun n (Nat.le_refl _)
     simp [Array.getD_eq_getD_getElem?, hlt] at this
   · have hk : ops.size ≤ k := by
       by_cases e : ops.size ≤ k
       · exact e
       · have := huk k (Nat.le_refl _)
         simp [Array.getD_eq_getD_getElem?, show k < ops.size by omega] at this
     rw [List.drop_eq_nil_of_le (by simpa using hk)] at hwp
     exact hwp
 · intro i o ho hl
   have hi := (gL ho)
   simp [Array.getD_eq_getD_getElem?, hi] at hl
 · intro j _
   by_cases hj : j < ops.size <;> simp [Array.getD_eq_getD_getElem?, hj]
 · refine ⟨(Below.refl _ w0).drew, rfl, rfl, fun _ _ => rfl, ?_⟩
   intro i o d ho _ hl _
   have hi := (gL ho)
   simp [Array.getD_eq_getD_getElem?, hi] at hl
 · exact Nat.le_trans (List.length_filter_le _ _) (by simp)

def StepsTo (P : Program) (ops : Array Oper) (n : Nat) (Q : Exit → Act → World → Prop) (Φ : Facts) (a0 : Act) (w0 : World) : Nat → List Oper → Prop
 | _, [] => True
 | i, o :: r => StepTo P ops n Q Φ a0 w0 i o ∧ StepsTo P ops n Q Φ a0 w0 (i + 1) r
theorem stepsTo_get {P : Program} {ops : Array Oper} {n : Nat} {Q : Exit → Act → World → Prop} {Φ : Facts} {a0 : Act} {w0 : World} : ∀ {l : List Oper} {k : Nat}, StepsTo P ops n Q Φ a0 w0 k l → ∀ i o, l[i]? = some o → StepTo P ops n Q Φ a0 w0 (k + i) o
 | [], _, _, i, o, h => by simp at h
 | x :: r, k, hs, i, o, h => by
   cases i with
   | zero => simp at h; subst h; exact hs.1
   | succ i =>
     have := stepsTo_get hs.2 i o (by simpa using h)
     rwa [show k + 1 + i = k + (i + 1) by omega] at this
theorem steps_to {P : Program} {ops : Array Oper} {n : Nat} {Q : Exit → Act → World → Prop} {Φ : Facts} {a0 : Act} {w0 : World} (H : StepsTo P ops n Q Φ a0 w0 0 (ops.toList.take n)) : ∀ i o, ops[i]? = some o → i < n → StepTo P ops n Q Φ a0 w0 i o := by
 intro i o ho hi
 have := stepsTo_get H i o (by rw [List.getElem?_take_of_lt hi]; simpa using ho)
 rwa [Nat.zero_add] at this
theorem facts_to {ops : Array Oper} {n : Nat} {Φ : Facts} {a : Act} {w : World} (hp : ∀ i o d, ops[i]? = some o → i < n → o.dst = some d → Φ i (a.tmps.getD d undef) w) (j d : Nat) (hj : j < n) (h : dstAt ops j d = true) : Φ j (a.tmps.getD d undef) w := by
 obtain ⟨oj, h1, h2⟩ := dstAt_spec h
 exact hp j oj d h1 hj h2

inductive Dq where
 | val (v : Value) | row (t : TypeId) (cs : Array Value) (n : Nat)
def Dq.holds (v : Value) (w : World) : Dq → Prop
 | .val u => v = u
 | .row t cs n => ∃ g, v = .slice (some ⟨g, 0, none⟩) n n ∧ w.heap[g]? = some (.cells cs t (0, 0))
theorem Dq.grow {d : Dq} {v : Value} {w w' : World} (h : d.holds v w) (hb : Below w.heap.size w w') : d.holds v w' := by
 cases d with
 | val => exact h
 | row t cs n =>
   obtain ⟨g, hv, hg⟩ := h
   exact ⟨g, hv, (hb.block g (gL hg)).trans hg⟩
def FQ (ds : List Dq) : Facts := fun i v w => match ds[i]? with
 | some d => d.holds v w
 | none => True
theorem FQ_grow (ds : List Dq) (i : Nat) (v : Value) (w w' : World) (h : FQ ds i v w) (hb : Below w.heap.size w w') : FQ ds i v w' := by
 unfold FQ at *
 cases hd : ds[i]? with
 | none => trivial
 | some d => rw [hd] at h; exact Dq.grow h hb
theorem FQ_at {ds : List Dq} {i : Nat} {v : Value} {w : World} (d : Dq) (hd : ds[i]? = some d) (h : FQ ds i v w) : d.holds v w := by
 unfold FQ at h
 rw [hd] at h
 exact h
theorem FQ_mk {ds : List Dq} {i : Nat} {v : Value} {w : World} (d : Dq) (hd : ds[i]? = some d) (h : d.holds v w) : FQ ds i v w := by
 unfold FQ
 rw [hd]
 exact h
theorem qval_at {ops : Array Oper} {ds : List Dq} {o : Oper} {a : Act} {w : World} (hp : HP ops (FQ ds) o a w) (j d : Nat) {u : Value} (h : fromOp ops o j d = true) (hd : ds[j]? = some (.val u)) : a.tmps.getD d undef = u := FQ_at _ hd (facts_at hp j d h)
theorem qslot_of {a : Array Value} {i n : Nat} {v : Value} (hs : a.size = n) (hi : i < n) (h : a.getD i undef = v) : a[i]'(hs ▸ hi) = v := by
 subst hs
 simpa [Array.getD_eq_getD_getElem?, hi] using h
theorem slots_all (a : Array Value) (n : Nat) (h : a.size = n) : a = ((List.range n).map (fun i => a.getD i undef)).toArray := by
 apply Array.ext
 · simp [h]
 · intro i h1 h2
   simp [Array.getD_eq_getD_getElem?, h1]
end Go.Proofs.YtlmdhlckgbgfhaaGreatDoor
namespace Go.Proofs.YtlmdhlckgbgfhaaGreatDoor
open Go.RowKit

def mergeFrom (a : Array Value) : Nat → List Bool → List Value → List Value
 | i, false :: m, v :: r => v :: mergeFrom a (i + 1) m r
 | i, true :: m, _ :: r => a.getD i undef :: mergeFrom a (i + 1) m r
 | _, _, _ => []
theorem merge_length (a : Array Value) : ∀ (m : List Bool) (l : List Value) (i : Nat), m.length = l.length → (mergeFrom a i m l).length = l.length
 | [], [], _, _ => rfl
 | false :: m, v :: r, i, h => by simp only [mergeFrom, List.length_cons]; rw [merge_length a m r _ (by simpa using h)]
 | true :: m, v :: r, i, h => by simp only [mergeFrom, List.length_cons]; rw [merge_length a m r _ (by simpa using h)]
 | [], _ :: _, _, h => by simp at h
 | _ :: _, [], _, h => by simp at h
theorem merge_at (a : Array Value) : ∀ (m : List Bool) (l : List Value) (i : Nat), m.length = l.length → (∀ j, m[j]? = some false → l[j]? = some (a.getD (i + j) undef)) → ∀ j, j < l.length → (mergeFrom a i m l)[j]? = some (a.getD (i + j) undef)
 | [], [], _, _, _, j, hj => by simp at hj
 | false :: m, v :: r, i, h, ho, j, hj => by
   cases j with
   | zero =>
     have := ho 0 rfl
     simpa [mergeFrom] using this
   | succ j =>
     have := merge_at a m r (i + 1) (by simpa using h) (fun q hq => by
       have := ho (q + 1) (by simpa using hq)
       rw [show i + (q + 1) = i + 1 + q by omega] at this
       simpa using this) j (by simpa using hj)
     rw [show i + (j + 1) = i + 1 + j by omega]
     simpa [mergeFrom] using this
 | true :: m, v :: r, i, h, ho, j, hj => by
   cases j with
   | zero => simp [mergeFrom]
   | succ j =>
     have := merge_at a m r (i + 1) (by simpa using h) (fun q hq => by
       have := ho (q + 1) (by simpa using hq)
       rw [show i + (q + 1) = i + 1 + q by omega] at this
       simpa using this) j (by simpa using hj)
     rw [show i + (j + 1) = i + 1 + j by omega]
     simpa [mergeFrom] using this
 | [], _ :: _, _, h, _, _, _ => by simp at h
 | _ :: _, [], _, h, _, _, _ => by simp at h
theorem slots_merge {ops : Array Oper} {a : Array Value} {l : List Value} (m : List Bool) (n : Nat) (hs : a.size = l.toArray.size) (hn : l.length = n) (hm : (List.range n).map (fun t => !(noDst ops t)) = m)
   (ho : ∀ t, noDst ops t = true → a.getD t undef = l.toArray.getD t undef) : a = (mergeFrom a 0 m l).toArray := by
 have hml : m.length = l.length := by rw [← hm, hn]; simp
 apply Array.ext
 · have h1 : (mergeFrom a 0 m l).toArray.size = l.length := by simp [merge_length a m l 0 hml]
   have h2 : a.size = l.length := by simpa using hs
   omega
 · intro i h1 h2
   have hi : i < l.length := by simpa [merge_length a m l 0 hml] using h2
   have := merge_at a m l 0 hml (fun j hj => by
     rw [← hm, List.getElem?_map] at hj
     have hjn : j < n := by
       apply Decidable.byContradiction; intro hc
       rw [List.getElem?_eq_none (by simpa using hc)] at hj; cases hj
     rw [List.getElem?_range hjn] at hj
     simp only [Option.map_some, Option.some.injEq, Bool.not_eq_false'] at hj
     have h3 := ho j hj
     rw [Nat.zero_add, h3]
     have : j < l.length := by omega
     simp [Array.getD_eq_getD_getElem?, this]) i hi
   rw [Nat.zero_add] at this
   have h4 := List.getElem?_eq_getElem (l := mergeFrom a 0 m l) (i := i) (by simpa using h2)
   rw [h4] at this
   have h5 : (mergeFrom a 0 m l)[i] = a.getD i undef := by simpa using this
   simp only [List.getElem_toArray]
   rw [h5]
   simp [Array.getD_eq_getD_getElem?, h1]
end Go.Proofs.YtlmdhlckgbgfhaaGreatDoor
namespace Go.Proofs.YtlmdhlckgbgfhaaGreatDoor
open Go.RowKit Go.Shelf

@[local go_sem] theorem str_geq (t : TypeId) (a b : ByteArray) : binOp .geq t (.string a) (.string b) = pure (.bool !(Op.bytesLess a.toList b.toList)) := by simp [binOp, Op.stringOp]
theorem stepB_eq {b : Bd} {j : Nat} (h : j < b.length) {PN : ByteArray} (hp : ∀ h0 : 0 < j, PN = (b[j - 1]'(by omega)).1) : (!(stepB b j)) = ((((decide ((j : Int) > 0)) && !(Op.bytesLess PN.toList b[j].1.toList)) || !(variableB b[j].1)) || !(b[j].2.valueB)) := by
 unfold stepB
 rw [List.getElem?_eq_getElem h]
 simp only [Bool.not_not]
 cases j with
 | zero => rfl
 | succ j =>
   rw [hp (by omega)]
   simp only [List.getElem?_eq_getElem (show j < b.length by omega), lessS, Nat.add_sub_cancel]
   rw [show decide (((j + 1 : Nat) : Int) > 0) = true from decide_eq_true (by omega), Bool.true_and]
def ds10_4 (b : Bd) (g off cap j n1 : Nat) (PN nm s2 : ByteArray) (k2 n2 : Int) (a2 : Option Addr) (l2 c2 : Nat) (VN VV : Bool) (B13 : Bool) : List Du := [.val (.int .i64 (j)), .val (.bool (B13)), .val (.bool (B13)), .val (cond (gon (true) (B13) true) (.slice (some ⟨g, off, none⟩) b.length cap) undef), .val (cond (gon (true) (B13) true) (.int .i64 (j)) undef), .val (cond (gon (true) (B13) true) (.int .i64 (IntKind.i64.wrap ((j) - (1)))) undef), .val (cond (gon (true) (B13) true) (.pointer (some ⟨g, off + (j - 1) * 5, none⟩)) undef), .val (cond (gon (true) (B13) true) (.pointer (some ⟨g, off + (j - 1) * 5, none⟩)) undef), .val (cond (gon (true) (B13) true) (.string PN) undef), .val (cond (gon (true) (B13) true) (.pointer (some ⟨n1, 0, none⟩)) undef), .val (cond (gon (true) (B13) true) (.string nm) undef), .val (cond (gon (true) (B13) true) (.bool (!(Op.bytesLess PN.toList nm.toList))) undef), .val (.bool ((B13 && !(Op.bytesLess PN.toList nm.toList)))), .val (.bool ((B13 && !(Op.bytesLess PN.toList nm.toList)))), .val (cond (gon (true) ((B13 && !(Op.bytesLess PN.toList nm.toList))) false) (.pointer (some ⟨n1, 0, none⟩)) undef), .val (cond (gon (true) ((B13 && !(Op.bytesLess PN.toList nm.toList))) false) (.string nm) undef), .val (cond (gon (true) ((B13 && !(Op.bytesLess PN.toList nm.toList))) false) (.bool (VN)) undef), .val (cond (gon (true) ((B13 && !(Op.bytesLess PN.toList nm.toList))) false) (.bool (!(VN))) undef), .val (.bool (((B13 && !(Op.bytesLess PN.toList nm.toList)) || !(VN)))), .val (.bool (((B13 && !(Op.bytesLess PN.toList nm.toList)) || !(VN)))), .val (cond (gon (true) (((B13 && !(Op.bytesLess PN.toList nm.toList)) || !(VN))) false) (.pointer (some ⟨n1, 1, none⟩)) undef), .val (cond (gon (true) (((B13 && !(Op.bytesLess PN.toList nm.toList)) || !(VN))) false) (.agg #[.int .u8 k2, .int .i64 n2, .string s2, .slice a2 l2 c2]) undef), .val (cond (gon (true) (((B13 && !(Op.bytesLess PN.toList nm.toList)) || !(VN))) false) (.bool (VV)) undef), .val (cond (gon (true) (((B13 && !(Op.bytesLess PN.toList nm.toList)) || !(VN))) false) (.bool (!(VV))) undef), .val (.bool ((((B13 && !(Op.bytesLess PN.toList nm.toList)) || !(VN)) || !(VV))))]
theorem validBd_any (b : Bd) (v : Value) (w : World) (hv : BdV w v b) (hd : ∀ x ∈ b, x.2.depth < 4611686018427387900) (hs : ∀ x ∈ b, x.1.size ≤ maxLen) :
   Calls Tryz.prog 8 #[v] w fun e w' => e = .returned (.bool (validBd b)) ∧ Below w.heap.size w w' := by
 obtain ⟨a, cap, rfl, hl, hm, hr⟩ := hv
 have HR := Hi hr
 have HD := Hi hd
 have HS := Hi hs
 have hlm : b.length ≤ maxLen := by omega
 clear hr hd hs hl hm
 unfold maxLen at hlm
 go_enter Tryz.func8, Tryz.ntmps8
 go_wp2_with fail
 go_loopw [7] (fun i wr => ∃ j : Nat, j ≤ b.length ∧ i = .int .i64 j ∧ Below w.heap.size w wr ∧ (List.range j).all (stepB b) = true) (fun i _ => b.length - (intOf i).toNat)
 case atStart => exact ⟨0, Nat.zero_le _, rfl, Below.refl _ _, rfl⟩
 case round =>
   obtain ⟨j, hj, rfl, hB, hA⟩ := hrel
   have HB := Hi hB
   have HA := Hi hA
   clear hB hA
   have i1 : (0 : Int) ≤ (j : Int) := by omega
   by_cases hlt : j < b.length
   · have i2 : (j : Int) < (b.length : Int) := by omega
     obtain ⟨g, off, rfl, hg, hI⟩ := HR.out (by intro e; rw [e] at hlt; simp at hlt)
     have HI := Hi hI
     obtain ⟨hs1, y0, c0, c1, c2, c3, y1, y2, y3, y4, hT⟩ := hI.at j hlt
     obtain ⟨nm, hnm⟩ : ∃ nm, b[j].1 = nm := ⟨_, rfl⟩
     obtain ⟨tq, htq⟩ : ∃ tq, b[j].2 = tq := ⟨_, rfl⟩
     have HVN := Hi (show ∀ w', Calls Tryz.prog 27 #[.string nm] w' fun e w'' => e = .returned (.bool (variableB nm)) ∧ w' = w'' from fun w' => variable_any nm w' (hnm ▸ hs1))
     have hdq := HD.out b[j] (List.getElem_mem hlt)
     have HST0 := stepB_eq hlt (PN := (b[j - 1]'(by omega)).1) (fun _ => rfl)
     have hPN : 0 < j → wr.cell? ⟨g, off + (j - 1) * 5, none⟩ = some (.string (b[j - 1]'(by omega)).1) := fun h0 => (HB.out.cell (p := ⟨g, off + (j - 1) * 5, none⟩) hg).trans (hI.at (j - 1) (by omega)).2.1
     obtain ⟨PN, hPNe⟩ : ∃ PN, (b[j - 1]'(by omega)).1 = PN := ⟨_, rfl⟩
     rw [hPNe] at HST0 hPN
     rw [hnm] at y0
     rw [hnm, htq] at HST0
     rw [htq] at hT hdq
     have hT0 := hT
     obtain ⟨k2, n2, s2, us2⟩ := tq
     simp only [IsTm] at hT0
     obtain ⟨rfl, _, rfl, _, rfl, _, a2, c2, rfl, _, _⟩ := hT0
     obtain ⟨l2, hl2⟩ : ∃ l2, us2.length = l2 := ⟨_, rfl⟩
     obtain ⟨VN, hVN⟩ : ∃ x, variableB nm = x := ⟨_, rfl⟩
     obtain ⟨VV, hVV⟩ : ∃ x, (Tm.mk k2 n2 s2 us2).valueB = x := ⟨_, rfl⟩
     rw [hVN, hVV] at HST0
     rw [hVN] at HVN
     have HVV0 : ∀ w', Below w.heap.size w w' → Calls Tryz.prog 28 #[.agg #[.int .u8 k2, .int .i64 n2, .string s2, .slice a2 us2.length c2]] w' fun e w'' => e = .returned (.bool VV) ∧ Below w'.heap.size w' w'' := fun w' h => hVV ▸ value_any _ _ _ _ _ w' ((hT.below h).mono h.size) hdq
     rw [hl2] at HVV0 y4
     have z0 := (HB.out.cell (p := ⟨g, off + j * 5, none⟩) hg).trans y0
     have z1 := (HB.out.cell (p := ⟨g, off + j * 5 + 1, none⟩) hg).trans y1
     have z2 := (HB.out.cell (p := ⟨g, off + j * 5 + 2, none⟩) hg).trans y2
     have z3 := (HB.out.cell (p := ⟨g, off + j * 5 + 3, none⟩) hg).trans y3
     have z4 := (HB.out.cell (p := ⟨g, off + j * 5 + 4, none⟩) hg).trans y4
     have HSTh := Hi HST0
     clear hI hs1 y0 y1 y2 y3 y4 hT hnm htq hdq hVN hVV hPNe HST0
     go_wp2_with fail
     revert HVV0
     obtain ⟨n1, hn1⟩ : ∃ n1, wr.heap.size = n1 := ⟨_, rfl⟩
     have hQ := World.alloc_heap_new wr (.cells #[.string nm, .int .u8 k2, .int .i64 n2, .string s2, .slice a2 l2 c2] 40)
     have hB1 := (HB.out).alloc HB.out.size (.cells #[.string nm, .int .u8 k2, .int .i64 n2, .string s2, .slice a2 l2 c2] 40)
     have hg1 : g < (wr.alloc (.cells #[.string nm, .int .u8 k2, .int .i64 n2, .string s2, .slice a2 l2 c2] 40)).heap.size := by have := HB.out.size; simp; omega
     have hPN1 : 0 < j → (wr.alloc (.cells #[.string nm, .int .u8 k2, .int .i64 n2, .string s2, .slice a2 l2 c2] 40)).cell? ⟨g, off + (j - 1) * 5, none⟩ = some (.string PN) := fun h0 => (((Below.refl _ wr).alloc (Nat.le_refl _) _).cell (p := ⟨g, off + (j - 1) * 5, none⟩) (by have := HB.out.size; show g < _; omega)).trans (hPN h0)
     rw [hn1] at hQ ⊢
     clear z0 z1 z2 z3 z4 hPN
     generalize (wr.alloc (.cells #[.string nm, .int .u8 k2, .int .i64 n2, .string s2, .slice a2 l2 c2] 40)) = W1 at hQ hB1 hg1 hPN1 ⊢
     intro HVV0
     have HQ := Hi hQ
     have HB1 := Hi hB1
     have HGW := Hi hg1
     have HPN := Hi hPN1
     have HVV := Hi (show ∀ w', Below W1.heap.size W1 w' → Calls Tryz.prog 28 #[.agg #[.int .u8 k2, .int .i64 n2, .string s2, .slice a2 l2 c2]] w' fun e w'' => e = .returned (.bool VV) ∧ Below w'.heap.size w' w'' from fun w' h => HVV0 w' (hB1.trans (h.mono hB1.size)))
     clear hQ hB1 hg1 hPN1 HVV0
     obtain ⟨B13, hB13⟩ : ∃ x : Bool, (decide (((j : Int)) > (0))) = x := ⟨_, rfl⟩
     have HST0 := HSTh.out
     rw [show decide ((j : Int) > 0) = B13 from hB13] at HST0
     have HST := Hi HST0
     clear HST0
     refine wp_region_grow_or (by kernel_rfl) (FU (ds10_4 b g off cap j n1 PN nm s2 k2 n2 a2 l2 c2 VN VV B13)) (FU_grow _) (by kernel_rfl) (steps_or ?_) ?_
     · refine ⟨?_, ?_, ?_, ?_, ?_, ?_, ?_, ?_, ?_, ?_, ?_, ?_, ?_, ?_, ?_, ?_, ?_, ?_, ?_, ?_, ?_, ?_, ?_, ?_, ?_, trivial⟩
       · intro ac wz hb hd hs ho hp
         refine Or.inl ⟨rfl, ?_⟩
         have h3 : ac.tmps.getD 3 undef = .int .i64 (j) := (ho 3 (by kernel_rfl)).trans rfl
         unfold Oper.wp
         go_simp
         exact Stepped.at rfl hd bR (FU_mk _ rfl (by show (_ : Value) = _; first | rfl | (first | rfl | simp) | (simp [*])))
       · intro ac wz hb hd hs ho hp
         refine Or.inl ⟨rfl, ?_⟩
         have h12 := uval_at hp 0 12 (by kernel_rfl) rfl
         unfold Oper.wp
         go_simp
         exact Stepped.at rfl hd bR (FU_mk _ rfl (by show (_ : Value) = _; first | rfl | (rw [← hB13]; first | rfl | simp) | (simp [*])))
       · intro ac wz hb hd hs ho hp
         refine Or.inl ⟨rfl, ?_⟩
         have h13 := uval_at hp 1 13 (by kernel_rfl) rfl
         unfold Oper.wp
         go_simp
         exact Stepped.at rfl hd bR (FU_mk _ rfl (by show (_ : Value) = _; first | rfl | (first | rfl | simp) | (simp [*])))
       · intro ac wz hb hd hs ho hp
         refine gon_or1 (k := 2) (d := 14) rfl (by kernel_rfl) (uval_at hp 2 14 (by kernel_rfl) rfl) (fun hc d hd => FU_mk _ rfl (by rw [hc]; rfl)) fun hc => ?_
         have HC := Hi hc
         clear hc
         have h0 : ac.tmps.getD 0 undef = .slice (some ⟨g, off, none⟩) b.length cap := (ho 0 (by kernel_rfl)).trans rfl
         unfold Oper.wp
         go_simp
         exact Stepped.at rfl hd bR (FU_mk _ rfl (by show (_ : Value) = _; first | rfl | (rw [HC.out]; first | rfl | simp) | (rw [HC.out]; simp [*])))
       · intro ac wz hb hd hs ho hp
         refine gon_or1 (k := 2) (d := 14) rfl (by kernel_rfl) (uval_at hp 2 14 (by kernel_rfl) rfl) (fun hc d hd => FU_mk _ rfl (by rw [hc]; rfl)) fun hc => ?_
         have HC := Hi hc
         clear hc
         have h3 : ac.tmps.getD 3 undef = .int .i64 (j) := (ho 3 (by kernel_rfl)).trans rfl
         unfold Oper.wp
         go_simp
         exact Stepped.at rfl hd bR (FU_mk _ rfl (by show (_ : Value) = _; first | rfl | (rw [HC.out]; first | rfl | simp) | (rw [HC.out]; simp [*])))
       · intro ac wz hb hd hs ho hp
         refine gon_or1 (k := 2) (d := 14) rfl (by kernel_rfl) (uval_at hp 2 14 (by kernel_rfl) rfl) (fun hc d hd => FU_mk _ rfl (by rw [hc]; rfl)) fun hc => ?_
         have HC := Hi hc
         clear hc
         have h16 := uval_at hp 4 16 (by kernel_rfl) rfl
         rw [HC.out, cond_true] at h16
         unfold Oper.wp
         go_simp
         exact Stepped.at rfl hd bR (FU_mk _ rfl (by show (_ : Value) = _; first | rfl | (rw [HC.out]; first | rfl | simp) | (rw [HC.out]; simp [*])))
       · intro ac wz hb hd hs ho hp
         refine gon_or1 (k := 2) (d := 14) rfl (by kernel_rfl) (uval_at hp 2 14 (by kernel_rfl) rfl) (fun hc d hd => FU_mk _ rfl (by rw [hc]; rfl)) fun hc => ?_
         have HC := Hi hc
         clear hc
         have h15 := uval_at hp 3 15 (by kernel_rfl) rfl
         rw [HC.out, cond_true] at h15
         have h17 := uval_at hp 5 17 (by kernel_rfl) rfl
         rw [HC.out, cond_true] at h17
         have hj0 : 0 < (j : Int) := by
             have h := gon_r HC.out
             rw [← hB13] at h
             simpa using h
         have hw1 : IntKind.i64.wrap ((j : Int) - 1) = (j : Int) - 1 := IntWalk.i64_in _ (by omega)
         rw [hw1] at h17
         have i3 : (1 : Int) ≤ (j : Int) := by omega
         have i4 : (j : Int) - 1 < (b.length : Int) := by omega
         have i5 : ((j : Int) - 1).toNat = j - 1 := by omega
         unfold Oper.wp
         go_simp
         exact Stepped.at rfl hd bR (FU_mk _ rfl (by show (_ : Value) = _; first | rfl | (rw [HC.out]; first | rfl | simp) | (rw [HC.out]; simp [*])))
       · intro ac wz hb hd hs ho hp
         refine gon_or1 (k := 2) (d := 14) rfl (by kernel_rfl) (uval_at hp 2 14 (by kernel_rfl) rfl) (fun hc d hd => FU_mk _ rfl (by rw [hc]; rfl)) fun hc => ?_
         have HC := Hi hc
         clear hc
         have h18 := uval_at hp 6 18 (by kernel_rfl) rfl
         rw [HC.out, cond_true] at h18
         unfold Oper.wp
         go_simp
         exact Stepped.at rfl hd bR (FU_mk _ rfl (by show (_ : Value) = _; first | rfl | (rw [HC.out]; first | rfl | simp) | (rw [HC.out]; simp [*])))
       · intro ac wz hb hd hs ho hp
         refine gon_or1 (k := 2) (d := 14) rfl (by kernel_rfl) (uval_at hp 2 14 (by kernel_rfl) rfl) (fun hc d hd => FU_mk _ rfl (by rw [hc]; rfl)) fun hc => ?_
         have HC := Hi hc
         clear hc
         have h19 := uval_at hp 7 19 (by kernel_rfl) rfl
         rw [HC.out, cond_true] at h19
         have hj0 : 0 < j := by
             have h := gon_r HC.out
             rw [← hB13] at h
             have : (j : Int) > 0 := by simpa using h
             omega
         have x0 := (hb.cell (p := ⟨g, off + (j - 1) * 5, none⟩) HGW.out).trans (HPN.out hj0)
         clear hj0
         unfold Oper.wp
         go_simp
         exact Stepped.at rfl hd bR (FU_mk _ rfl (by show (_ : Value) = _; first | rfl | (rw [HC.out]; first | rfl | simp) | (rw [HC.out]; simp [*])))
       · intro ac wz hb hd hs ho hp
         refine gon_or1 (k := 2) (d := 14) rfl (by kernel_rfl) (uval_at hp 2 14 (by kernel_rfl) rfl) (fun hc d hd => FU_mk _ rfl (by rw [hc]; rfl)) fun hc => ?_
         have HC := Hi hc
         clear hc
         have h4 : ac.tmps.getD 4 undef = .pointer (some ⟨n1, 0, none⟩) := (ho 4 (by kernel_rfl)).trans rfl
         unfold Oper.wp
         go_simp
         exact Stepped.at rfl hd bR (FU_mk _ rfl (by show (_ : Value) = _; first | rfl | (rw [HC.out]; first | rfl | simp) | (rw [HC.out]; simp [*])))
       · intro ac wz hb hd hs ho hp
         refine gon_or1 (k := 2) (d := 14) rfl (by kernel_rfl) (uval_at hp 2 14 (by kernel_rfl) rfl) (fun hc d hd => FU_mk _ rfl (by rw [hc]; rfl)) fun hc => ?_
         have HC := Hi hc
         clear hc
         have h21 := uval_at hp 9 21 (by kernel_rfl) rfl
         rw [HC.out, cond_true] at h21
         have hx := (hb.block n1 (gL HQ.out)).trans HQ.out
         have x0 := cells_at hx 0 _ rfl
         have x1 := cells_at hx 1 _ rfl
         have x2 := cells_at hx 2 _ rfl
         have x3 := cells_at hx 3 _ rfl
         have x4 := cells_at hx 4 _ rfl
         unfold Oper.wp
         go_simp
         exact Stepped.at rfl hd bR (FU_mk _ rfl (by show (_ : Value) = _; first | rfl | (rw [HC.out]; first | rfl | simp) | (rw [HC.out]; simp [*])))
       · intro ac wz hb hd hs ho hp
         refine gon_or1 (k := 2) (d := 14) rfl (by kernel_rfl) (uval_at hp 2 14 (by kernel_rfl) rfl) (fun hc d hd => FU_mk _ rfl (by rw [hc]; rfl)) fun hc => ?_
         have HC := Hi hc
         clear hc
         have h20 := uval_at hp 8 20 (by kernel_rfl) rfl
         rw [HC.out, cond_true] at h20
         have h22 := uval_at hp 10 22 (by kernel_rfl) rfl
         rw [HC.out, cond_true] at h22
         unfold Oper.wp
         go_simp
         exact Stepped.at rfl hd bR (FU_mk _ rfl (by show (_ : Value) = _; first | rfl | (rw [HC.out]; first | rfl | simp) | (rw [HC.out]; simp [*])))
       · intro ac wz hb hd hs ho hp
         refine Or.inl ⟨rfl, ?_⟩
         have h14 := uval_at hp 2 14 (by kernel_rfl) rfl
         rcases bool_of h14 with e | e
         · rw [e] at h14
           have E := Hi e
           clear e
           have h23 := uval_at hp 11 23 (by kernel_rfl) rfl
           rw [gon_mk rfl E.out, cond_true] at h23
           unfold Oper.wp
           go_simp
           exact Stepped.at rfl hd bR (FU_mk _ rfl (by show (_ : Value) = _; first | (simp only [E.out, Bool.true_and]; done) | simp [E.out]))
         · rw [e] at h14
           have E := Hi e
           clear e
           unfold Oper.wp
           go_simp
           exact Stepped.at rfl hd bR (FU_mk _ rfl (by show (_ : Value) = _; first | (simp only [E.out, Bool.false_and]; done) | simp [E.out]))
       · intro ac wz hb hd hs ho hp
         refine Or.inl ⟨rfl, ?_⟩
         have h24 := uval_at hp 12 24 (by kernel_rfl) rfl
         unfold Oper.wp
         go_simp
         exact Stepped.at rfl hd bR (FU_mk _ rfl (by show (_ : Value) = _; first | rfl | (first | rfl | simp) | (simp [*])))
       · intro ac wz hb hd hs ho hp
         refine gon_or1 (k := 13) (d := 25) rfl (by kernel_rfl) (uval_at hp 13 25 (by kernel_rfl) rfl) (fun hc d hd => FU_mk _ rfl (by rw [hc]; rfl)) fun hc => ?_
         have HC := Hi hc
         clear hc
         have h4 : ac.tmps.getD 4 undef = .pointer (some ⟨n1, 0, none⟩) := (ho 4 (by kernel_rfl)).trans rfl
         unfold Oper.wp
         go_simp
         exact Stepped.at rfl hd bR (FU_mk _ rfl (by show (_ : Value) = _; first | rfl | (rw [HC.out]; first | rfl | simp) | (rw [HC.out]; simp [*])))
       · intro ac wz hb hd hs ho hp
         refine gon_or1 (k := 13) (d := 25) rfl (by kernel_rfl) (uval_at hp 13 25 (by kernel_rfl) rfl) (fun hc d hd => FU_mk _ rfl (by rw [hc]; rfl)) fun hc => ?_
         have HC := Hi hc
         clear hc
         have h26 := uval_at hp 14 26 (by kernel_rfl) rfl
         rw [HC.out, cond_true] at h26
         have hx := (hb.block n1 (gL HQ.out)).trans HQ.out
         have x0 := cells_at hx 0 _ rfl
         have x1 := cells_at hx 1 _ rfl
         have x2 := cells_at hx 2 _ rfl
         have x3 := cells_at hx 3 _ rfl
         have x4 := cells_at hx 4 _ rfl
         unfold Oper.wp
         go_simp
         exact Stepped.at rfl hd bR (FU_mk _ rfl (by show (_ : Value) = _; first | rfl | (rw [HC.out]; first | rfl | simp) | (rw [HC.out]; simp [*])))
       · intro ac wz hb hd hs ho hp
         refine gon_or1 (k := 13) (d := 25) rfl (by kernel_rfl) (uval_at hp 13 25 (by kernel_rfl) rfl) (fun hc d hd => FU_mk _ rfl (by rw [hc]; rfl)) fun hc => ?_
         have HC := Hi hc
         clear hc
         have h27 := uval_at hp 15 27 (by kernel_rfl) rfl
         rw [HC.out, cond_true] at h27
         unfold Oper.wp
         go_simp
         refine (HVN.out _).mono ?_
         rintro e2 w2 ⟨rfl, rfl⟩
         exact Stepped.at rfl hd bR (FU_mk _ rfl (by show (_ : Value) = _; rw [HC.out]; first | rfl | simp))
       · intro ac wz hb hd hs ho hp
         refine gon_or1 (k := 13) (d := 25) rfl (by kernel_rfl) (uval_at hp 13 25 (by kernel_rfl) rfl) (fun hc d hd => FU_mk _ rfl (by rw [hc]; rfl)) fun hc => ?_
         have HC := Hi hc
         clear hc
         have h28 := uval_at hp 16 28 (by kernel_rfl) rfl
         rw [HC.out, cond_true] at h28
         unfold Oper.wp
         go_simp
         exact Stepped.at rfl hd bR (FU_mk _ rfl (by show (_ : Value) = _; first | rfl | (rw [HC.out]; first | rfl | simp) | (rw [HC.out]; simp [*])))
       · intro ac wz hb hd hs ho hp
         refine Or.inl ⟨rfl, ?_⟩
         have h25 := uval_at hp 13 25 (by kernel_rfl) rfl
         rcases bool_of h25 with e | e
         · rw [e] at h25
           have E := Hi e
           clear e
           unfold Oper.wp
           go_simp
           exact Stepped.at rfl hd bR (FU_mk _ rfl (by show (_ : Value) = _; first | (simp only [E.out, Bool.true_or]; done) | simp [E.out]))
         · rw [e] at h25
           have E := Hi e
           clear e
           have h29 := uval_at hp 17 29 (by kernel_rfl) rfl
           rw [gon_mk rfl E.out, cond_true] at h29
           unfold Oper.wp
           go_simp
           exact Stepped.at rfl hd bR (FU_mk _ rfl (by show (_ : Value) = _; first | (simp only [E.out, Bool.false_or]; done) | simp [E.out]))
       · intro ac wz hb hd hs ho hp
         refine Or.inl ⟨rfl, ?_⟩
         have h30 := uval_at hp 18 30 (by kernel_rfl) rfl
         unfold Oper.wp
         go_simp
         exact Stepped.at rfl hd bR (FU_mk _ rfl (by show (_ : Value) = _; first | rfl | (first | rfl | simp) | (simp [*])))
       · intro ac wz hb hd hs ho hp
         refine gon_or1 (k := 19) (d := 31) rfl (by kernel_rfl) (uval_at hp 19 31 (by kernel_rfl) rfl) (fun hc d hd => FU_mk _ rfl (by rw [hc]; rfl)) fun hc => ?_
         have HC := Hi hc
         clear hc
         have h4 : ac.tmps.getD 4 undef = .pointer (some ⟨n1, 0, none⟩) := (ho 4 (by kernel_rfl)).trans rfl
         unfold Oper.wp
         go_simp
         exact Stepped.at rfl hd bR (FU_mk _ rfl (by show (_ : Value) = _; first | rfl | (rw [HC.out]; first | rfl | simp) | (rw [HC.out]; simp [*])))
       · intro ac wz hb hd hs ho hp
         refine gon_or1 (k := 19) (d := 31) rfl (by kernel_rfl) (uval_at hp 19 31 (by kernel_rfl) rfl) (fun hc d hd => FU_mk _ rfl (by rw [hc]; rfl)) fun hc => ?_
         have HC := Hi hc
         clear hc
         have h32 := uval_at hp 20 32 (by kernel_rfl) rfl
         rw [HC.out, cond_true] at h32
         have hx := (hb.block n1 (gL HQ.out)).trans HQ.out
         have x0 := cells_at hx 0 _ rfl
         have x1 := cells_at hx 1 _ rfl
         have x2 := cells_at hx 2 _ rfl
         have x3 := cells_at hx 3 _ rfl
         have x4 := cells_at hx 4 _ rfl
         unfold Oper.wp
         go_simp
         exact Stepped.at rfl hd bR (FU_mk _ rfl (by show (_ : Value) = _; first | rfl | (rw [HC.out]; first | rfl | simp) | (rw [HC.out]; simp [*])))
       · intro ac wz hb hd hs ho hp
         refine gon_or1 (k := 19) (d := 31) rfl (by kernel_rfl) (uval_at hp 19 31 (by kernel_rfl) rfl) (fun hc d hd => FU_mk _ rfl (by rw [hc]; rfl)) fun hc => ?_
         have HC := Hi hc
         clear hc
         have h33 := uval_at hp 21 33 (by kernel_rfl) rfl
         rw [HC.out, cond_true] at h33
         unfold Oper.wp
         go_simp
         refine (HVV.out _ hb).mono ?_
         rintro e2 w2 ⟨rfl, hb2⟩
         exact Stepped.at rfl hd (hb2) (FU_mk _ rfl (by show (_ : Value) = _; rw [HC.out]; first | rfl | simp))
       · intro ac wz hb hd hs ho hp
         refine gon_or1 (k := 19) (d := 31) rfl (by kernel_rfl) (uval_at hp 19 31 (by kernel_rfl) rfl) (fun hc d hd => FU_mk _ rfl (by rw [hc]; rfl)) fun hc => ?_
         have HC := Hi hc
         clear hc
         have h34 := uval_at hp 22 34 (by kernel_rfl) rfl
         rw [HC.out, cond_true] at h34
         unfold Oper.wp
         go_simp
         exact Stepped.at rfl hd bR (FU_mk _ rfl (by show (_ : Value) = _; first | rfl | (rw [HC.out]; first | rfl | simp) | (rw [HC.out]; simp [*])))
       · intro ac wz hb hd hs ho hp
         refine Or.inl ⟨rfl, ?_⟩
         have h31 := uval_at hp 19 31 (by kernel_rfl) rfl
         rcases bool_of h31 with e | e
         · rw [e] at h31
           have E := Hi e
           clear e
           unfold Oper.wp
           go_simp
           exact Stepped.at rfl hd bR (FU_mk _ rfl (by show (_ : Value) = _; first | (simp only [E.out, Bool.true_or]; done) | simp [E.out]))
         · rw [e] at h31
           have E := Hi e
           clear e
           have h35 := uval_at hp 23 35 (by kernel_rfl) rfl
           rw [gon_mk rfl E.out, cond_true] at h35
           unfold Oper.wp
           go_simp
           exact Stepped.at rfl hd bR (FU_mk _ rfl (by show (_ : Value) = _; first | (simp only [E.out, Bool.false_or]; done) | simp [E.out]))
     intro ac W2 hJ
     have f36 : ac.tmps.getD 36 undef = .bool ((((B13 && !(Op.bytesLess PN.toList nm.toList)) || !(VN)) || !(VV))) := FU_at (.val (.bool ((((B13 && !(Op.bytesLess PN.toList nm.toList)) || !(VN)) || !(VV))))) rfl (hJ.at_end 24 36 (by kernel_rfl))
     have e36 : ((((B13 && !(Op.bytesLess PN.toList nm.toList)) || !(VN)) || !(VV))) = !(stepB b j) := HST.out.symm
     rw [e36] at f36
     clear e36
     obtain ⟨u12, f12⟩ := exV (ac.tmps.getD 12 undef)
     obtain ⟨u13, f13⟩ := exV (ac.tmps.getD 13 undef)
     obtain ⟨u14, f14⟩ := exV (ac.tmps.getD 14 undef)
     obtain ⟨u15, f15⟩ := exV (ac.tmps.getD 15 undef)
     obtain ⟨u16, f16⟩ := exV (ac.tmps.getD 16 undef)
     obtain ⟨u17, f17⟩ := exV (ac.tmps.getD 17 undef)
     obtain ⟨u18, f18⟩ := exV (ac.tmps.getD 18 undef)
     obtain ⟨u19, f19⟩ := exV (ac.tmps.getD 19 undef)
     obtain ⟨u20, f20⟩ := exV (ac.tmps.getD 20 undef)
     obtain ⟨u21, f21⟩ := exV (ac.tmps.getD 21 undef)
     obtain ⟨u22, f22⟩ := exV (ac.tmps.getD 22 undef)
     obtain ⟨u23, f23⟩ := exV (ac.tmps.getD 23 undef)
     obtain ⟨u24, f24⟩ := exV (ac.tmps.getD 24 undef)
     obtain ⟨u25, f25⟩ := exV (ac.tmps.getD 25 undef)
     obtain ⟨u26, f26⟩ := exV (ac.tmps.getD 26 undef)
     obtain ⟨u27, f27⟩ := exV (ac.tmps.getD 27 undef)
     obtain ⟨u28, f28⟩ := exV (ac.tmps.getD 28 undef)
     obtain ⟨u29, f29⟩ := exV (ac.tmps.getD 29 undef)
     obtain ⟨u30, f30⟩ := exV (ac.tmps.getD 30 undef)
     obtain ⟨u31, f31⟩ := exV (ac.tmps.getD 31 undef)
     obtain ⟨u32, f32⟩ := exV (ac.tmps.getD 32 undef)
     obtain ⟨u33, f33⟩ := exV (ac.tmps.getD 33 undef)
     obtain ⟨u34, f34⟩ := exV (ac.tmps.getD 34 undef)
     obtain ⟨u35, f35⟩ := exV (ac.tmps.getD 35 undef)
     have b := hJ.below
     obtain ⟨TT, DD⟩ := ac
     obtain rfl : DD = [] := hJ.defers
     have hE := slots_merge [false, false, false, false, false, false, false, false, false, false, false, false, true, true, true, true, true, true, true, true, true, true, true, true, true, true, true, true, true, true, true, true, true, true, true, true, true, false] 38 hJ.tmps rfl (by kernel_rfl) hJ.outer
     simp only [mergeFrom, Nat.zero_add, Nat.reduceAdd, f12, f13, f14, f15, f16, f17, f18, f19, f20, f21, f22, f23, f24, f25, f26, f27, f28, f29, f30, f31, f32, f33, f34, f35, f36] at hE
     clear hJ f12 f13 f14 f15 f16 f17 f18 f19 f20 f21 f22 f23 f24 f25 f26 f27 f28 f29 f30 f31 f32 f33 f34 f35 f36 hB13
     subst hE
     have HBF := Hi (HB1.out.trans (b.mono HB1.out.size))
     clear b
     cases hst : stepB b j with
     | true =>
       have HA2 := Hi (show (List.range (j + 1)).all (stepB b) = true by rw [List.range_succ, List.all_append, HA.out]; simp [hst])
       clear hst
       go_wp2
       go_roundw
       case rel => exact ⟨j + 1, by omega, by go_num, HBF.out, HA2.out⟩
       case measure => simp [intOf]; omega
     | false =>
       have HF := Hi (show validBd b = false by unfold validBd; rw [List.all_eq_false]; exact ⟨j, List.mem_range.2 hlt, by simp [hst]⟩)
       clear hst
       go_wp2
       go_ret
       exact ⟨by rw [HF.out]; rfl, HBF.out⟩
   · have i2 : ¬ (j : Int) < (b.length : Int) := by omega
     have hje : j = b.length := by omega
     have HF := Hi (show validBd b = true by unfold validBd; rw [← hje]; exact HA.out)
     go_wp2
     go_ret
     exact ⟨by rw [HF.out]; rfl, HB.out⟩
end Go.Proofs.YtlmdhlckgbgfhaaGreatDoor
namespace Go.Proofs.YtlmdhlckgbgfhaaGreatDoor
open Go.RowKit Go.Shelf

theorem clip_any (a : Option Addr) (n cap : Nat) (h : n ≤ cap) (hc : cap ≤ maxLen) (w : World) : Calls Tryz.prog 55 #[.slice a n cap] w fun e w' => e = .returned (.slice a n n) ∧ w = w' := by
 have hc2 := hc
 clear hc
 unfold maxLen at hc2
 have i0 : (0 : Int) ≤ (n : Int) := by omega
 have i1 : (n : Int) ≤ (cap : Int) := by omega
 go_enter Tryz.func55, Tryz.ntmps55
 go_wp2
 go_ret
 exact ⟨rfl, rfl⟩
theorem place1_any (nm s : ByteArray) (k n : Int) (t : ByteArray) (a : Option Addr) (l c : Nat) (w : World) :
   Calls Tryz.prog 115 #[.agg #[.string nm, .int .u8 k, .int .i64 n, .string t, .slice a l c], .string s] w fun e w' => e = .returned (.int .i64 (strCmp nm s)) ∧ Below w.heap.size w w' := by
 go_enter Tryz.func115, Tryz.ntmps115
 go_wp2_with (go_at_call 116; refine (Tryz.strings_Compare nm s _).mono ?_; rintro e w' ⟨rfl, rfl⟩)
 go_ret
 exact ⟨by rw [compareBytes_str]; rfl, bR.alloc (Nat.le_refl _) _⟩
theorem strCmp_less {s t : ByteArray} : strCmp s t < 0 ↔ lessS s t = true := by
 rw [lessS_cmp]
 have := byC_sg s.toList t.toList
 rw [← strCmp_eq] at this
 unfold Sg at this
 omega
theorem strCmp_zero {s t : ByteArray} : strCmp s t = 0 ↔ s = t := by rw [strCmp_eq, byC_zero, str_inj]

theorem search_any (b : Bd) (hs : Srt b) (s : ByteArray) (v : Value) (w : World) (hv : BdV w v b) (hlen : b.length ≤ 1000000) :
   Calls Tryz.prog 114 #[v, .string s, .func (.func 115) #[] #[]] w fun e w' => e = .returned (.tuple #[.int .i64 (idxB b s), .bool (lookB b s).isSome]) ∧ Below w.heap.size w w' := by
 obtain ⟨a, cap, rfl, hl, hm, hr⟩ := hv
 have HR := Hi hr
 have HS := Hi hs
 have hlm : b.length ≤ maxLen := by omega
 clear hr hs hl hm
 go_enter Tryz.func114, Tryz.ntmps114
 go_wp2_with fail
 go_loopw [9, 10] (fun i j wr => ∃ x y : Nat, x ≤ idxB b s ∧ idxB b s ≤ y ∧ y ≤ b.length ∧ i = .int .i64 x ∧ j = .int .i64 y ∧ Below w.heap.size w wr) (fun i j _ => (intOf j - intOf i).toNat)
 case atStart => exact ⟨0, b.length, Nat.zero_le _, idx_le _ _, Nat.le_refl _, rfl, rfl, Below.refl _ _⟩
 case round =>
   obtain ⟨x, y, hx, hy, hyl, rfl, rfl, hB⟩ := hrel
   have HB := Hi hB
   clear hB
   have HX := Hi (And.intro hx hy)
   clear hx hy
   by_cases hxy : x < y
   · have i1 : (x : Int) < (y : Int) := by omega
     have w1 : IntKind.i64.wrap ((x : Int) + (y : Int)) = ((x + y : Nat) : Int) := by rw [IntWalk.i64_in _ (by omega)]; omega
     obtain ⟨h, hh⟩ : ∃ h : Nat, ((x : Int) + (y : Int)) / 2 = (h : Int) := ⟨(x + y) / 2, by omega⟩
     have hxh : x ≤ h := by omega
     have hhy : h < y := by omega
     have hlt : h < b.length := by omega
     have i2 : (0 : Int) ≤ (h : Int) := by omega
     have i3 : (h : Int) < (b.length : Int) := by omega
     obtain ⟨g, off, rfl, hg, hI⟩ := HR.out (by intro e; rw [e] at hlt; simp at hlt)
     obtain ⟨hs1, y0, c0, c1, c2, c3, y1, y2, y3, y4, hT⟩ := hI.at h hlt
     have hsp := idx_spec (n := s) HS.out h hlt
     obtain ⟨nm, hnm⟩ : ∃ nm, b[h].1 = nm := ⟨_, rfl⟩
     rw [hnm] at y0 hsp
     obtain ⟨tq, htq⟩ : ∃ tq, b[h].2 = tq := ⟨_, rfl⟩
     rw [htq] at hT
     obtain ⟨k2, n2, s2, us2⟩ := tq
     simp only [IsTm] at hT
     obtain ⟨rfl, _, rfl, _, rfl, _, a2, c2, rfl, _, _⟩ := hT
     have z0 := (HB.out.cell (p := ⟨g, off + h * 5, none⟩) hg).trans y0
     have z1 := (HB.out.cell (p := ⟨g, off + h * 5 + 1, none⟩) hg).trans y1
     have z2 := (HB.out.cell (p := ⟨g, off + h * 5 + 2, none⟩) hg).trans y2
     have z3 := (HB.out.cell (p := ⟨g, off + h * 5 + 3, none⟩) hg).trans y3
     have z4 := (HB.out.cell (p := ⟨g, off + h * 5 + 4, none⟩) hg).trans y4
     have HSP := Hi hsp
     have HP := Hi (place1_any nm s k2 n2 s2 a2 us2.length c2 wr)
     clear hI hs1 y0 y1 y2 y3 y4 hnm htq hsp
     by_cases hlo : strCmp nm s < 0
     · have HN := Hi (show h + 1 ≤ idxB b s by have h1 := strCmp_less.1 hlo; rw [HSP.out, decide_eq_true_eq] at h1; omega)
       have i4 : IntKind.i64.wrap ((h : Int) + 1) = ((h + 1 : Nat) : Int) := by rw [IntWalk.i64_in _ (by omega)]; omega
       go_wp2_with (go_at_call 115; refine HP.out.mono ?_; rintro e w2 ⟨rfl, hb⟩)
       have HB2 := Hi (HB.out.trans (hb.mono HB.out.size))
       clear hb
       go_roundw
       case rel => exact ⟨h + 1, y, HN.out, HX.out.2, hyl, by first | rfl | go_num, rfl, HB2.out⟩
       case measure => simp [intOf]; omega
     · have HN := Hi (show idxB b s ≤ h by
         have h1 : ¬ lessS nm s = true := fun e => hlo (strCmp_less.2 e)
         rw [HSP.out, decide_eq_true_eq] at h1; omega)
       go_wp2_with (go_at_call 115; refine HP.out.mono ?_; rintro e w2 ⟨rfl, hb⟩)
       have HB2 := Hi (HB.out.trans (hb.mono HB.out.size))
       clear hb
       go_roundw
       case rel => exact ⟨x, h, HX.out.1, HN.out, by omega, rfl, rfl, HB2.out⟩
       case measure => simp [intOf]; omega
   · have i1 : ¬ (x : Int) < (y : Int) := by omega
     have hxe : x = idxB b s := by have := HX.out; omega
     by_cases hlt : x < b.length
     · have i2 : (0 : Int) ≤ (x : Int) := by omega
       have i3 : (x : Int) < (b.length : Int) := by omega
       obtain ⟨g, off, rfl, hg, hI⟩ := HR.out (by intro e; rw [e] at hlt; simp at hlt)
       obtain ⟨hs1, y0, c0, c1, c2, c3, y1, y2, y3, y4, hT⟩ := hI.at x hlt
       have hlk : (lookB b s).isSome = decide (b[x].1 = s) := by
         subst hxe
         rcases look_idx (n := s) HS.out with ⟨h1, h2, h3⟩ | ⟨h1, h2⟩
         · rw [h3, h2]; simp
         · rw [h1, decide_eq_false (h2 hlt)]; rfl
       obtain ⟨nm, hnm⟩ : ∃ nm, b[x].1 = nm := ⟨_, rfl⟩
       rw [hnm] at y0 hlk
       obtain ⟨tq, htq⟩ : ∃ tq, b[x].2 = tq := ⟨_, rfl⟩
       rw [htq] at hT
       obtain ⟨k2, n2, s2, us2⟩ := tq
       simp only [IsTm] at hT
       obtain ⟨rfl, _, rfl, _, rfl, _, a2, c2, rfl, _, _⟩ := hT
       have z0 := (HB.out.cell (p := ⟨g, off + x * 5, none⟩) hg).trans y0
       have z1 := (HB.out.cell (p := ⟨g, off + x * 5 + 1, none⟩) hg).trans y1
       have z2 := (HB.out.cell (p := ⟨g, off + x * 5 + 2, none⟩) hg).trans y2
       have z3 := (HB.out.cell (p := ⟨g, off + x * 5 + 3, none⟩) hg).trans y3
       have z4 := (HB.out.cell (p := ⟨g, off + x * 5 + 4, none⟩) hg).trans y4
       have HLK := Hi hlk
       have HXE := Hi hxe
       have HP := Hi (place1_any nm s k2 n2 s2 a2 us2.length c2 wr)
       clear hI hs1 y0 y1 y2 y3 y4 hnm htq hlk hxe
       obtain ⟨ec, hec⟩ : ∃ ec, strCmp nm s = ec := ⟨_, rfl⟩
       have HEC := Hi (show decide (ec = 0) = decide (nm = s) by rw [← hec]; exact decide_eq_decide.2 strCmp_zero)
       rw [hec] at HP
       clear hec
       go_wp2_with (go_at_call 115; refine HP.out.mono ?_; rintro e w2 ⟨rfl, hb⟩)
       have HB2 := Hi (HB.out.trans (hb.mono HB.out.size))
       clear hb
       go_ret2
       refine ⟨?_, HB2.out⟩
       rw [HLK.out, ← HEC.out, ← HXE.out]
       rfl
     · have i3 : ¬ (x : Int) < (b.length : Int) := by omega
       have HXE := Hi hxe
       have HLK := Hi (show lookB b s = none by
         rcases look_idx (n := s) HS.out with ⟨h1, h2, h3⟩ | ⟨h1, h2⟩
         · omega
         · exact h1)
       clear hxe
       go_wp2
       go_ret2
       refine ⟨?_, HB.out⟩
       rw [HLK.out, ← HXE.out]
       rfl
theorem place_any (b : Bd) (hs : Srt b) (s : ByteArray) (v : Value) (w : World) (hv : BdV w v b) (hlen : b.length ≤ 1000000) :
   Calls Tryz.prog 80 #[v, .string s] w fun e w' => e = .returned (.tuple #[.int .i64 (idxB b s), .bool (lookB b s).isSome]) ∧ Below w.heap.size w w' := by
 have HP := Hi (search_any b hs s v w hv hlen)
 obtain ⟨a, cap, rfl, _⟩ := hv
 go_enter Tryz.func80, Tryz.ntmps80
 go_wp2_with (go_at_call 114; refine HP.out.mono ?_; rintro e w2 ⟨rfl, hb⟩)
 go_ret2
 exact ⟨rfl, hb⟩
def LookPost (b : Bd) (s : ByteArray) (w0 w : World) (e : Ending) (w' : World) : Prop := ∃ c0 c1 c2 c3, e = .returned (.tuple #[.agg #[c0, c1, c2, c3], .bool (lookB b s).isSome]) ∧ Below w.heap.size w w' ∧
 ((lookB b s = none ∧ c0 = .int .u8 0 ∧ c1 = .int .i64 0 ∧ c2 = .string ⟨#[]⟩ ∧ c3 = .slice none 0 0) ∨ ∃ t, lookB b s = some t ∧ IsTm w0.heap.size w0 c0 c1 c2 c3 t)
theorem lookup_at (b : Bd) (hs : Srt b) (s : ByteArray) (v : Value) (w0 w : World) (hv : BdV w0 v b) (hb0 : Below w0.heap.size w0 w) (hlen : b.length ≤ 1000000) :
   Calls Tryz.prog 58 #[v, .string s] w (LookPost b s w0 w) := by
 have HP := Hi (fun w' (h : Below w.heap.size w w') => place_any b hs s v w' (hv.grow (hb0.trans (h.mono hb0.size))) hlen)
 have HB0 := Hi hb0
 clear hb0
 have HS := Hi hs
 obtain ⟨a, cap, rfl, hc1, hc2, hr⟩ := hv
 have HR := Hi hr
 clear hr hs hc1 hc2
 have B1 := (Below.refl _ w).alloc (Nat.le_refl _) (.cells #[.int .u8 0, .int .i64 0, .string ⟨#[]⟩, .slice none 0 0] 24)
 have HB1 := Hi B1
 clear B1
 go_enter Tryz.func58, Tryz.ntmps58
 rcases look_idx (n := s) HS.out with ⟨h1, h2, h3⟩ | ⟨h1, h2⟩
 · have hlk : (lookB b s).isSome = true := by rw [h3]; rfl
   rw [hlk] at HP
   obtain ⟨x, hx⟩ : ∃ x, idxB b s = x := ⟨_, rfl⟩
   rw [hx] at HP
   simp only [hx] at h1 h2 h3
   obtain ⟨g, off, rfl, hg, hI⟩ := HR.out (by intro e; rw [e] at h1; simp at h1)
   obtain ⟨_, _, c0, c1, c2, c3, y1, y2, y3, y4, hT⟩ := hI.at x h1
   have i2 : (0 : Int) ≤ (x : Int) := by omega
   have i3 : (x : Int) < (b.length : Int) := by omega
   have HL := Hi h3
   obtain ⟨tq, htq⟩ : ∃ tq, b[x].2 = tq := ⟨_, rfl⟩
   rw [htq] at hT HL
   have HT := Hi hT
   obtain ⟨k2, n2, s2, us2⟩ := tq
   simp only [IsTm] at hT
   obtain ⟨rfl, _, rfl, _, rfl, _, a2, c2, rfl, _, _⟩ := hT
   have HLK := Hi hlk
   have HG := Hi hg
   have HY := Hi (And.intro y1 (And.intro y2 (And.intro y3 y4)))
   clear hI htq h2 h3 hlk hx y1 y2 y3 y4 hg
   go_wp2_with (go_at_call 80; refine (HP.out _ HB1.out).mono ?_; rintro e w2 ⟨rfl, hb⟩; have HB2 := Hi (HB1.out.trans (hb.mono HB1.out.size)); have z1 := ((HB0.out.trans (HB2.out.mono HB0.out.size)).cell (p := ⟨g, off + x * 5 + 1, none⟩) HG.out).trans HY.out.1; have z2 := ((HB0.out.trans (HB2.out.mono HB0.out.size)).cell (p := ⟨g, off + x * 5 + 2, none⟩) HG.out).trans HY.out.2.1; have z3 := ((HB0.out.trans (HB2.out.mono HB0.out.size)).cell (p := ⟨g, off + x * 5 + 3, none⟩) HG.out).trans HY.out.2.2.1; have z4 := ((HB0.out.trans (HB2.out.mono HB0.out.size)).cell (p := ⟨g, off + x * 5 + 4, none⟩) HG.out).trans HY.out.2.2.2; have hx4 := (hb.block w.heap.size (by simp)).trans (World.alloc_heap_new w (.cells #[.int .u8 0, .int .i64 0, .string ⟨#[]⟩, .slice none 0 0] 24)); have r0 := cells_at hx4 0 _ rfl; have r1 := cells_at hx4 1 _ rfl; have r2 := cells_at hx4 2 _ rfl; have r3 := cells_at hx4 3 _ rfl; have p0 := frozen_of_row w2 w.heap.size 0 _ _ hx4; have p1 := frozen_of_row w2 w.heap.size 1 _ _ hx4; have p2 := frozen_of_row w2 w.heap.size 2 _ _ hx4; have p3 := frozen_of_row w2 w.heap.size 3 _ _ hx4; clear hb hx4)
   refine bodyPost_ret (v := .tuple #[.agg #[.int .u8 k2, .int .i64 n2, .string s2, .slice a2 us2.length c2], .bool true]) (by simp [results, Tryz.f58, go_sem, r0, r1, r2, r3]) rfl ?_
   exact ⟨_, _, _, _, by rw [HLK.out], (((HB2.out.setCell (p := ⟨w.heap.size, 0, none⟩) (by simp) _).setCell (p := ⟨w.heap.size, 1, none⟩) (by simp) _).setCell (p := ⟨w.heap.size, 2, none⟩) (by simp) _).setCell (p := ⟨w.heap.size, 3, none⟩) (by simp) _, Or.inr ⟨_, HL.out, HT.out⟩⟩
 · have hlk : (lookB b s).isSome = false := by rw [h1]; rfl
   rw [hlk] at HP
   have HL := Hi h1
   have HLK := Hi hlk
   obtain ⟨x, hx⟩ : ∃ x, idxB b s = x := ⟨_, rfl⟩
   rw [hx] at HP
   clear h1 h2 hlk hx
   go_wp2_with (go_at_call 80; refine (HP.out _ HB1.out).mono ?_; rintro e w2 ⟨rfl, hb⟩; have HB2 := Hi (HB1.out.trans (hb.mono HB1.out.size)); have hx4 := (hb.block w.heap.size (by simp)).trans (World.alloc_heap_new w (.cells #[.int .u8 0, .int .i64 0, .string ⟨#[]⟩, .slice none 0 0] 24)); have r0 := cells_at hx4 0 _ rfl; have r1 := cells_at hx4 1 _ rfl; have r2 := cells_at hx4 2 _ rfl; have r3 := cells_at hx4 3 _ rfl; have p0 := frozen_of_row w2 w.heap.size 0 _ _ hx4; have p1 := frozen_of_row w2 w.heap.size 1 _ _ hx4; have p2 := frozen_of_row w2 w.heap.size 2 _ _ hx4; have p3 := frozen_of_row w2 w.heap.size 3 _ _ hx4; clear hb hx4)
   refine bodyPost_ret (v := .tuple #[.agg #[.int .u8 0, .int .i64 0, .string ⟨#[]⟩, .slice none 0 0], .bool false]) (by simp [results, Tryz.f58, go_sem, r0, r1, r2, r3]) rfl ?_
   exact ⟨_, _, _, _, by rw [HLK.out], (((HB2.out.setCell (p := ⟨w.heap.size, 0, none⟩) (by simp) _).setCell (p := ⟨w.heap.size, 1, none⟩) (by simp) _).setCell (p := ⟨w.heap.size, 2, none⟩) (by simp) _).setCell (p := ⟨w.heap.size, 3, none⟩) (by simp) _, Or.inl ⟨HL.out, rfl, rfl, rfl, rfl⟩⟩
end Go.Proofs.YtlmdhlckgbgfhaaGreatDoor
namespace Go.Proofs.YtlmdhlckgbgfhaaGreatDoor
open Go.RowKit

inductive Ar where
 | neg | add | sub | mul | quo | rem
 deriving DecidableEq

def arOf (s : List UInt8) (n : Nat) : Option Ar :=
 if s = [45] ∧ n = 1 then some .neg else if s = [43] ∧ n = 2 then some .add else if s = [45] ∧ n = 2 then some .sub
 else if s = [42] ∧ n = 2 then some .mul else if s = [47] ∧ n = 2 then some .quo else if s = [92] ∧ n = 2 then some .rem else none
def Ar.arity : Ar → Nat
 | .neg => 1
 | _ => 2
def Ar.run : Ar → Int → Int → Option Int
 | .neg, a, _ => some (-a)
 | .add, a, b => some (a + b)
 | .sub, a, b => some (a - b)
 | .mul, a, b => some (a * b)
 | .quo, a, b => if b = 0 then none else some (a.tdiv b)
 | .rem, a, b => if b = 0 then none else some (a.tmod b)
def outB (n : Int) : Bool := decide (n < -2147483647) || decide (2147483647 < n)
def applyI (o : Ar) (l : List Int) : Option Int :=
 if l.any outB then none else match o.run (l.getD 0 0) (l.getD 1 0) with
   | none => none
   | some n => if outB n then none else some n
theorem arOf_arity {s : List UInt8} {n : Nat} {o : Ar} (h : arOf s n = some o) : n = o.arity := by
 unfold arOf at h
 repeat' split at h
 all_goals first | (cases h; rename_i g; exact g.2) | cases h
theorem outB_false {n : Int} : outB n = false ↔ -2147483647 ≤ n ∧ n ≤ 2147483647 := by
 unfold outB; simp [Int.not_lt]
def combos {α : Type} : List (List α) → List (List α)
 | [] => [[]]
 | l :: ls => l.flatMap fun x => (combos ls).map (x :: ·)

theorem combos_nil_of_mem {α : Type} : ∀ {ls : List (List α)}, [] ∈ ls → combos ls = []
 | l :: ls, h => by
   rcases List.mem_cons.1 h with h | h
   · subst h; rfl
   · simp [combos, combos_nil_of_mem h]
theorem combos_length {α : Type} : ∀ (ls : List (List α)) (c : List α), c ∈ combos ls → c.length = ls.length
 | [], c, h => by simp [combos] at h; simp [h]
 | l :: ls, c, h => by
   simp only [combos, List.mem_flatMap, List.mem_map] at h
   obtain ⟨x, _, c', hc, rfl⟩ := h
   simp [combos_length ls c' hc]
theorem combos_map {α β : Type} (f : α → β) : ∀ (ls : List (List α)), combos (ls.map (List.map f)) = (combos ls).map (List.map f)
 | [] => rfl
 | l :: ls => by
   simp only [List.map_cons, combos, combos_map f ls, List.flatMap_map, List.map_flatMap, List.map_map]
   rfl
theorem combos_mem {α : Type} : ∀ (ls : List (List α)) (c : List α), c ∈ combos ls ↔ c.length = ls.length ∧ ∀ i (h : i < c.length) (h' : i < ls.length), c[i] ∈ ls[i]
 | [], c => by
   simp only [combos, List.mem_singleton, List.length_nil]
   constructor
   · rintro rfl; exact ⟨rfl, fun i h => absurd h (by simp)⟩
   · rintro ⟨h, _⟩; exact List.length_eq_zero_iff.1 h
 | l :: ls, c => by
   simp only [combos, List.mem_flatMap, List.mem_map]
   constructor
   · rintro ⟨x, hx, c', hc, rfl⟩
     have := (combos_mem ls c').1 hc
     refine ⟨by simp [this.1], fun i h h' => ?_⟩
     cases i with
     | zero => exact hx
     | succ i => exact this.2 i (by simpa using h) (by simpa using h')
   · rintro ⟨hl, hm⟩
     cases c with
     | nil => simp at hl
     | cons x c' =>
       refine ⟨x, hm 0 (by simp) (by simp), c', (combos_mem ls c').2 ⟨by simpa using hl, fun i h h' => hm (i + 1) (by simpa using h) (by simpa using h')⟩, rfl⟩

def intsOf (ts : List Tm) : List Int := ts.filterMap fun t => if t.kind = 1 then some t.num else none

def resultsI (o : Ar) (ls : List (List Int)) : List Int := ((combos ls).filterMap (applyI o)).eraseDups
def sortI (l : List Int) : List Int := l.mergeSort (fun x y => decide (x ≤ y))
def numT (n : Int) : Tm := .mk 1 n ⟨#[]⟩ []
def spanL (a b : Int) : List Int := (List.range (b - a + 1).toNat).map fun (i : Nat) => a + (i : Int)

mutual
def Tm.exp : Tm → Option (List Tm)
 | .mk k n s args =>
   if k = 4 then (Tm.expL args).bind fun ls => if (combos ls).length ≤ 1000 then some ((combos ls).map fun c => .mk 4 0 s c) else none
   else if k = 5 then (Tm.expL args).bind fun ls => match arOf s.toList args.length with
     | none => none
     | some o => if (resultsI o (ls.map intsOf)).length ≤ 1000 then some ((sortI (resultsI o (ls.map intsOf))).map numT) else none
   else if k = 6 then (Tm.expL args).bind fun ls => match (intsOf (ls.getD 0 [])).head?, (intsOf (ls.getD 1 [])).getLast? with
     | some a, some b => if b - a + 1 ≤ 1000 then some ((spanL a b).map numT) else none
     | _, _ => some []
   else some [.mk k n s []]
def Tm.expL : List Tm → Option (List (List Tm))
 | [] => some []
 | t :: ts => t.exp.bind fun l => (Tm.expL ts).bind fun ls => some (l :: ls)
end
theorem Tm.expL_some : ∀ {ts : List Tm} {ls : List (List Tm)}, Tm.expL ts = some ls → ls.length = ts.length ∧ ∀ i (h : i < ts.length) (h' : i < ls.length), ts[i].exp = some ls[i]
 | [], ls, h => by simp only [Tm.expL, Option.some.injEq] at h; subst h; exact ⟨rfl, fun i h => absurd h (by simp)⟩
 | t :: ts, ls, h => by
   simp only [Tm.expL, Option.bind_eq_some_iff, Option.some.injEq] at h
   obtain ⟨l, hl, ls', hls, rfl⟩ := h
   have := Tm.expL_some hls
   refine ⟨by simp [this.1], fun i h h' => ?_⟩
   cases i with
   | zero => exact hl
   | succ i => exact this.2 i (by simpa using h) (by simpa using h')
theorem Tm.expL_take {ts : List Tm} {j : Nat} (hj : j < ts.length) : Tm.expL (ts.take (j + 1)) = (Tm.expL (ts.take j)).bind fun ls => ts[j].exp.bind fun l => some (ls ++ [l]) := by
 induction ts generalizing j with
 | nil => simp at hj
 | cons t ts ih =>
   cases j with
   | zero =>
     simp only [List.take_succ_cons, List.take_zero, Tm.expL, List.getElem_cons_zero]
     cases t.exp <;> rfl
   | succ j =>
     simp only [List.take_succ_cons, Tm.expL, ih (by simpa using hj), List.getElem_cons_succ]
     cases t.exp with
     | none => rfl
     | some l =>
       simp only [Option.bind_some]
       cases Tm.expL (ts.take j) with
       | none => rfl
       | some ls =>
         simp only [Option.bind_some]
         cases (ts[j]'(by simpa using hj)).exp <;> rfl
theorem Tm.expL_none_take : ∀ {ts : List Tm} (j : Nat), Tm.expL (ts.take j) = none → Tm.expL ts = none
 | [], j, h => by simpa using h
 | t :: ts, 0, h => by simp [Tm.expL] at h
 | t :: ts, j + 1, h => by
   simp only [List.take_succ_cons, Tm.expL] at h ⊢
   cases ht : t.exp with
   | none => rfl
   | some l =>
     rw [ht] at h
     simp only [Option.bind_some] at h ⊢
     cases hl : Tm.expL (ts.take j) with
     | none => rw [Tm.expL_none_take j hl]; rfl
     | some ls => rw [hl] at h; simp at h

theorem Tm.exp_fun {n : Int} {s : ByteArray} {args : List Tm} : Tm.exp (.mk 4 n s args) = (Tm.expL args).bind fun ls => if (combos ls).length ≤ 1000 then some ((combos ls).map fun c => .mk 4 0 s c) else none := by
 rw [Tm.exp]; simp
theorem Tm.exp_op {n : Int} {s : ByteArray} {args : List Tm} : Tm.exp (.mk 5 n s args) = (Tm.expL args).bind fun ls => match arOf s.toList args.length with
     | none => none
     | some o => if (resultsI o (ls.map intsOf)).length ≤ 1000 then some ((sortI (resultsI o (ls.map intsOf))).map numT) else none := by
 rw [Tm.exp]; simp
theorem Tm.exp_span {n : Int} {s : ByteArray} {args : List Tm} : Tm.exp (.mk 6 n s args) = (Tm.expL args).bind fun ls => match (intsOf (ls.getD 0 [])).head?, (intsOf (ls.getD 1 [])).getLast? with
     | some a, some b => if b - a + 1 ≤ 1000 then some ((spanL a b).map numT) else none
     | _, _ => some [] := by
 rw [Tm.exp]; simp
theorem Tm.exp_leaf {k n : Int} {s : ByteArray} {args : List Tm} (h4 : k ≠ 4) (h5 : k ≠ 5) (h6 : k ≠ 6) : Tm.exp (.mk k n s args) = some [.mk k n s []] := by
 rw [Tm.exp]; simp [h4, h5, h6]

theorem nodup_eraseDups (l : List Int) : l.eraseDups.Nodup := by
 induction h : l.length using Nat.strongRecOn generalizing l with
 | _ n ih =>
   cases l with
   | nil => simp
   | cons a l =>
     rw [List.eraseDups_cons, List.nodup_cons]
     refine ⟨?_, ih _ (by subst h; simpa using Nat.lt_succ_of_le (List.length_filter_le _ _)) _ rfl⟩
     rw [List.mem_eraseDups]
     simp
theorem resultsI_nodup (o : Ar) (ls : List (List Int)) : (resultsI o ls).Nodup := nodup_eraseDups _
theorem resultsI_mem {o : Ar} {ls : List (List Int)} {n : Int} : n ∈ resultsI o ls ↔ ∃ c ∈ combos ls, applyI o c = some n := by
 unfold resultsI; rw [List.mem_eraseDups, List.mem_filterMap]

theorem applyI_range {o : Ar} {l : List Int} {n : Int} (h : applyI o l = some n) : -2147483647 ≤ n ∧ n ≤ 2147483647 := by
 unfold applyI at h
 split at h
 · cases h
 · split at h
   · cases h
   · split at h
     · cases h
     · rename_i hn
       cases h
       exact outB_false.1 (by simpa using hn)
end Go.Proofs.YtlmdhlckgbgfhaaGreatDoor
namespace Go.Proofs.YtlmdhlckgbgfhaaGreatDoor
open Go.RowKit

mutual
def IsTmIn (ok : Nat → Prop) (w : World) (c0 c1 c2 c3 : Value) : Tm → Prop
 | .mk k n s args => c0 = .int .u8 k ∧ (0 ≤ k ∧ k ≤ 255) ∧ c1 = .int .i64 n ∧ I64 n ∧ c2 = .string s ∧ s.size ≤ maxLen ∧
     ∃ (a : Option Addr) (cap : Nat), c3 = .slice a args.length cap ∧ args.length ≤ maxLen ∧ (args ≠ [] → ∃ b off, a = some ⟨b, off, none⟩ ∧ ok b ∧ IsTmsIn ok w b off args)
def IsTmsIn (ok : Nat → Prop) (w : World) (b off : Nat) : List Tm → Prop
 | [] => True
 | t :: ts => ∃ c0 c1 c2 c3, w.cell? ⟨b, off, none⟩ = some c0 ∧ w.cell? ⟨b, off + 1, none⟩ = some c1 ∧ w.cell? ⟨b, off + 2, none⟩ = some c2 ∧ w.cell? ⟨b, off + 3, none⟩ = some c3 ∧
     IsTmIn ok w c0 c1 c2 c3 t ∧ IsTmsIn ok w b (off + 4) ts
end
theorem cell_block {w w' : World} {b o : Nat} (h : w'.heap[b]? = w.heap[b]?) : w'.cell? ⟨b, o, none⟩ = w.cell? ⟨b, o, none⟩ := World.cell?_of_block (a := ⟨b, o, none⟩) h

mutual
theorem IsTmIn.keep {ok ok' : Nat → Prop} {w w' : World} (h : ∀ b, ok b → ok' b ∧ w'.heap[b]? = w.heap[b]?) {c0 c1 c2 c3 : Value} : ∀ {t : Tm}, IsTmIn ok w c0 c1 c2 c3 t → IsTmIn ok' w' c0 c1 c2 c3 t
 | .mk _ _ _ args, ht => by
   simp only [IsTmIn] at ht ⊢
   obtain ⟨h0, hk, h1, hn, h2, hs, a, cap, h3, hl, hr⟩ := ht
   refine ⟨h0, hk, h1, hn, h2, hs, a, cap, h3, hl, fun hne => ?_⟩
   obtain ⟨b, off, ha, hb, hi⟩ := hr hne
   exact ⟨b, off, ha, (h b hb).1, IsTmsIn.keep h hb hi⟩
theorem IsTmsIn.keep {ok ok' : Nat → Prop} {w w' : World} (h : ∀ b, ok b → ok' b ∧ w'.heap[b]? = w.heap[b]?) {b off : Nat} (hb : ok b) : ∀ {ts : List Tm}, IsTmsIn ok w b off ts → IsTmsIn ok' w' b off ts
 | [], _ => by simp only [IsTmsIn]
 | t :: ts, ht => by
   simp only [IsTmsIn] at ht ⊢
   obtain ⟨c0, c1, c2, c3, h0, h1, h2, h3, hi, hr⟩ := ht
   have e := fun o => cell_block (o := o) (h b hb).2
   exact ⟨c0, c1, c2, c3, (e _).trans h0, (e _).trans h1, (e _).trans h2, (e _).trans h3, IsTmIn.keep h hi, IsTmsIn.keep h hb hr⟩
end
theorem IsTmsIn.cells {ok ok' : Nat → Prop} {w w' : World} (h : ∀ b, ok b → ok' b ∧ w'.heap[b]? = w.heap[b]?) {b : Nat} (hb : w'.heap[b]? = w.heap[b]?) : ∀ {ts : List Tm} {off : Nat}, IsTmsIn ok w b off ts → IsTmsIn ok' w' b off ts
 | [], _, _ => by simp only [IsTmsIn]
 | t :: ts, off, ht => by
   simp only [IsTmsIn] at ht ⊢
   obtain ⟨c0, c1, c2, c3, h0, h1, h2, h3, hi, hr⟩ := ht
   have e := fun o => cell_block (o := o) hb
   exact ⟨c0, c1, c2, c3, (e _).trans h0, (e _).trans h1, (e _).trans h2, (e _).trans h3, IsTmIn.keep h hi, IsTmsIn.cells h hb hr⟩

mutual
theorem IsTmIn.isTm {ok : Nat → Prop} {B : Nat} (h : ∀ b, ok b → b < B) {w : World} {c0 c1 c2 c3 : Value} : ∀ {t : Tm}, IsTmIn ok w c0 c1 c2 c3 t → IsTm B w c0 c1 c2 c3 t
 | .mk _ _ _ args, ht => by
   simp only [IsTmIn, IsTm] at ht ⊢
   obtain ⟨h0, hk, h1, hn, h2, hs, a, cap, h3, hl, hr⟩ := ht
   refine ⟨h0, hk, h1, hn, h2, hs, a, cap, h3, hl, fun hne => ?_⟩
   obtain ⟨b, off, ha, hb, hi⟩ := hr hne
   exact ⟨b, off, ha, h b hb, IsTmsIn.isTms h hi⟩
theorem IsTmsIn.isTms {ok : Nat → Prop} {B : Nat} (h : ∀ b, ok b → b < B) {w : World} {b off : Nat} : ∀ {ts : List Tm}, IsTmsIn ok w b off ts → IsTms B w b off ts
 | [], _ => by simp only [IsTms]
 | t :: ts, ht => by
   simp only [IsTmsIn, IsTms] at ht ⊢
   obtain ⟨c0, c1, c2, c3, h0, h1, h2, h3, hi, hr⟩ := ht
   exact ⟨c0, c1, c2, c3, h0, h1, h2, h3, IsTmIn.isTm h hi, IsTmsIn.isTms h hr⟩
end
mutual
theorem IsTm.isIn {B : Nat} {w : World} {c0 c1 c2 c3 : Value} : ∀ {t : Tm}, IsTm B w c0 c1 c2 c3 t → IsTmIn (· < B) w c0 c1 c2 c3 t
 | .mk _ _ _ args, ht => by
   simp only [IsTmIn, IsTm] at ht ⊢
   obtain ⟨h0, hk, h1, hn, h2, hs, a, cap, h3, hl, hr⟩ := ht
   refine ⟨h0, hk, h1, hn, h2, hs, a, cap, h3, hl, fun hne => ?_⟩
   obtain ⟨b, off, ha, hb, hi⟩ := hr hne
   exact ⟨b, off, ha, hb, IsTms.isIns hi⟩
theorem IsTms.isIns {B : Nat} {w : World} {b off : Nat} : ∀ {ts : List Tm}, IsTms B w b off ts → IsTmsIn (· < B) w b off ts
 | [], _ => by simp only [IsTmsIn]
 | t :: ts, ht => by
   simp only [IsTmsIn, IsTms] at ht ⊢
   obtain ⟨c0, c1, c2, c3, h0, h1, h2, h3, hi, hr⟩ := ht
   exact ⟨c0, c1, c2, c3, h0, h1, h2, h3, IsTm.isIn hi, IsTms.isIns hr⟩
end
def HoldL (ok : Nat → Prop) (w : World) : List Value → List Tm → Prop
 | xs, [] => xs = []
 | xs, t :: ts => ∃ c0 c1 c2 c3 r, xs = c0 :: c1 :: c2 :: c3 :: r ∧ IsTmIn ok w c0 c1 c2 c3 t ∧ HoldL ok w r ts
theorem HoldL.keep {ok ok' : Nat → Prop} {w w' : World} (h : ∀ b, ok b → ok' b ∧ w'.heap[b]? = w.heap[b]?) : ∀ {ts : List Tm} {xs : List Value}, HoldL ok w xs ts → HoldL ok' w' xs ts
 | [], _, hx => hx
 | _ :: _, _, ⟨c0, c1, c2, c3, r, e, ht, hr⟩ => ⟨c0, c1, c2, c3, r, e, ht.keep h, HoldL.keep h hr⟩
theorem HoldL.len {ok : Nat → Prop} {w : World} : ∀ {ts : List Tm} {xs : List Value}, HoldL ok w xs ts → xs.length = ts.length * 4
 | [], _, hx => by rw [show _ = [] from hx]; rfl
 | t :: ts, _, ⟨c0, c1, c2, c3, r, e, ht, hr⟩ => by rw [e]; simp [HoldL.len hr]; omega
theorem HoldL.append {ok : Nat → Prop} {w : World} : ∀ {ts us : List Tm} {xs ys : List Value}, HoldL ok w xs ts → HoldL ok w ys us → HoldL ok w (xs ++ ys) (ts ++ us)
 | [], _, _, _, hx, hy => by rw [show _ = [] from hx]; exact hy
 | t :: ts, _, _, _, ⟨c0, c1, c2, c3, r, e, ht, hr⟩, hy => ⟨c0, c1, c2, c3, r ++ _, by rw [e]; rfl, ht, HoldL.append hr hy⟩
theorem HoldL.one {ok : Nat → Prop} {w : World} {c0 c1 c2 c3 : Value} {t : Tm} (h : IsTmIn ok w c0 c1 c2 c3 t) : HoldL ok w [c0, c1, c2, c3] [t] := ⟨c0, c1, c2, c3, [], rfl, h, rfl⟩
theorem HoldL.at {ok : Nat → Prop} {w : World} : ∀ {ts : List Tm} {xs : List Value}, HoldL ok w xs ts → ∀ i (h : i < ts.length), ∃ c0 c1 c2 c3, xs[i * 4]? = some c0 ∧ xs[i * 4 + 1]? = some c1 ∧ xs[i * 4 + 2]? = some c2 ∧ xs[i * 4 + 3]? = some c3 ∧ IsTmIn ok w c0 c1 c2 c3 ts[i]
 | [], _, _, i, h => absurd h (by simp)
 | t :: ts, _, ⟨c0, c1, c2, c3, r, e, ht, hr⟩, i, h => by
   subst e
   cases i with
   | zero => exact ⟨c0, c1, c2, c3, rfl, rfl, rfl, rfl, ht⟩
   | succ i =>
     obtain ⟨d0, d1, d2, d3, h0, h1, h2, h3, hi⟩ := HoldL.at hr i (by simpa using h)
     refine ⟨d0, d1, d2, d3, ?_, ?_, ?_, ?_, hi⟩
     · rw [show (i + 1) * 4 = i * 4 + 4 from by omega]; exact h0
     · rw [show (i + 1) * 4 + 1 = (i * 4 + 1) + 4 from by omega]; exact h1
     · rw [show (i + 1) * 4 + 2 = (i * 4 + 2) + 4 from by omega]; exact h2
     · rw [show (i + 1) * 4 + 3 = (i * 4 + 3) + 4 from by omega]; exact h3
theorem HoldL.tms {ok : Nat → Prop} {w : World} {g : Nat} : ∀ {ts : List Tm} {xs : List Value} {off : Nat}, HoldL ok w xs ts → (∀ j u, xs[j]? = some u → w.cell? ⟨g, off + j, none⟩ = some u) → IsTmsIn ok w g off ts
 | [], _, _, _, _ => by simp only [IsTmsIn]
 | t :: ts, _, off, ⟨c0, c1, c2, c3, r, e, ht, hr⟩, hc => by
   subst e
   simp only [IsTmsIn]
   refine ⟨c0, c1, c2, c3, hc 0 _ rfl, hc 1 _ rfl, hc 2 _ rfl, hc 3 _ rfl, ht, HoldL.tms hr fun j u hu => ?_⟩
   have := hc (j + 4) u hu
   rwa [show off + (j + 4) = off + 4 + j from by omega] at this
theorem HoldL.of_tms {ok : Nat → Prop} {w : World} {b : Nat} : ∀ {ts : List Tm} {off : Nat}, IsTmsIn ok w b off ts → ∃ xs, HoldL ok w xs ts ∧ ∀ j u, xs[j]? = some u → w.cell? ⟨b, off + j, none⟩ = some u
 | [], _, _ => ⟨[], rfl, fun j u h => by simp at h⟩
 | t :: ts, off, h => by
   simp only [IsTmsIn] at h
   obtain ⟨c0, c1, c2, c3, h0, h1, h2, h3, ht, hr⟩ := h
   obtain ⟨xs, hx, hc⟩ := HoldL.of_tms hr
   refine ⟨c0 :: c1 :: c2 :: c3 :: xs, ⟨c0, c1, c2, c3, xs, rfl, ht, hx⟩, fun j u hu => ?_⟩
   match j, hu with
   | 0, hu => cases hu; exact h0
   | 1, hu => cases hu; exact h1
   | 2, hu => cases hu; exact h2
   | 3, hu => cases hu; exact h3
   | j + 4, hu => rw [show off + (j + 4) = off + 4 + j from by omega]; exact hc j u hu

def Far (ex : Option Nat) (base : Nat) (w : World) (v : Value) (b : Nat) : Prop := base ≤ b ∧ b < w.heap.size ∧ v.ownBlock ≠ some b ∧ ex ≠ some b
def Vals (ex : Option Nat) (base : Nat) (w : World) (v : Value) (ts : List Tm) : Prop :=
 ∃ xs, w.ownsRow base 24 4 v ts.length xs ∧ HoldL (Far ex base w v) w xs ts ∧ ∀ g, ex = some g → v.ownBlock ≠ some g
theorem Vals.nil (ex : Option Nat) (base : Nat) (w : World) : Vals ex base w (.slice none 0 0) [] := ⟨[], World.ownsRow_nil _ _ _ _, rfl, fun _ _ h => by cases h⟩
theorem own_grown {w w' : World} {base : Nat} {e : TypeId} {size : Nat} {v : Value} {n : Nat} {xs : List Value} (h : w.ownsRow base e size v n xs) (hb : Below w.heap.size w w') : w'.ownsRow base e size v n xs :=
 h.kept (row := none) ⟨hb.os, hb.tape, hb.output, hb.size, fun k hk _ => hb.block k hk⟩ (by cases h1 : v.ownBlock <;> simp)
theorem Vals.grow {ex : Option Nat} {base : Nat} {w w' : World} {v : Value} {ts : List Tm} (h : Vals ex base w v ts) (hb : Below w.heap.size w w') : Vals ex base w' v ts := by
 obtain ⟨xs, ho, hh, hx⟩ := h
 exact ⟨xs, own_grown ho hb, hh.keep fun b hf => ⟨⟨hf.1, Nat.lt_of_lt_of_le hf.2.1 hb.size, hf.2.2⟩, hb.block b hf.2.1⟩, hx⟩
theorem Vals.other {g base : Nat} {w w' : World} {v : Value} {ts : List Tm} (h : Vals (some g) base w v ts) (hg : w.grownBy w' (some g)) : Vals (some g) base w' v ts := by
 obtain ⟨xs, ho, hh, hx⟩ := h
 exact ⟨xs, ho.kept hg (.inr (hx g rfl)), hh.keep fun b hf => ⟨⟨hf.1, Nat.lt_of_lt_of_le hf.2.1 hg.size, hf.2.2⟩, hg.block b hf.2.1 (fun e => hf.2.2.2 e.symm)⟩, hx⟩
theorem Vals.open' {ex : Option Nat} {base : Nat} {w : World} {v : Value} {ts : List Tm} (h : Vals ex base w v ts) : Vals none base w v ts := by
 obtain ⟨xs, ho, hh, _⟩ := h
 exact ⟨xs, ho, hh.keep fun b hf => ⟨⟨hf.1, hf.2.1, hf.2.2.1, by simp⟩, rfl⟩, fun _ e => by cases e⟩
theorem Vals.shun {base g : Nat} {w : World} {v : Value} {ts : List Tm} (h : Vals none base w v ts) (hg : w.heap.size ≤ g) : Vals (some g) base w v ts := by
 obtain ⟨xs, ho, hh, _⟩ := h
 exact ⟨xs, ho, hh.keep fun b hf => ⟨⟨hf.1, hf.2.1, hf.2.2.1, by intro e; cases e; have := hf.2.1; omega⟩, rfl⟩, fun g' e => by cases e; intro e; have := (ho.lt g e).2; omega⟩
theorem Vals.one {base : Nat} {w : World} {g : Nat} {c0 c1 c2 c3 : Value} {t : Tm} (hb : base ≤ g) (hg : w.heap[g]? = some (.cells #[c0, c1, c2, c3] 24 (0, 0))) (h : IsTmIn (fun b => base ≤ b ∧ b < w.heap.size ∧ b ≠ g) w c0 c1 c2 c3 t) :
   Vals none base w (.slice (some ⟨g, 0, none⟩) 1 1) [t] :=
 ⟨[c0, c1, c2, c3], ⟨rfl, .inr ⟨g, 1, #[c0, c1, c2, c3], rfl, hb, hg, Nat.le_refl _, by unfold maxLen; omega, rfl, rfl⟩⟩, HoldL.one (h.keep fun b hf => ⟨⟨hf.1, hf.2.1, by simp [Value.ownBlock]; omega, by simp⟩, rfl⟩), fun _ e => by cases e⟩
theorem Vals.app {ex : Option Nat} {base : Nat} {w w' : World} {v v' : Value} {ts us : List Tm} {xs ys : List Value} (ho : HoldL (Far ex base w v) w xs ts) (hx : ∀ g, ex = some g → v.ownBlock ≠ some g ∧ g < w.heap.size) (hy : HoldL (Far ex base w v) w ys us)
   (hown : w'.ownsRow base 24 4 v' (ts.length + us.length) (xs ++ ys)) (hg : w.grownBy w' v.ownBlock) (hat : v'.ownBlock = v.ownBlock ∨ v'.ownBlock = some w.heap.size) : Vals ex base w' v' (ts ++ us) := by
 have hk : ∀ b, Far ex base w v b → Far ex base w' v' b ∧ w'.heap[b]? = w.heap[b]? := fun b hf =>
   ⟨⟨hf.1, Nat.lt_of_lt_of_le hf.2.1 hg.size, by
     rcases hat with e | e <;> rw [e]
     · exact hf.2.2.1
     · intro e'; cases e'; exact absurd hf.2.1 (by omega), hf.2.2.2⟩, hg.block b hf.2.1 (fun e => hf.2.2.1 e.symm)⟩
 refine ⟨xs ++ ys, by rw [List.length_append]; exact hown, (ho.keep hk).append (hy.keep hk), fun g e => ?_⟩
 rcases hat with e' | e' <;> rw [e']
 · exact (hx g e).1
 · intro e''; cases e''; have := (hx _ e).2; omega
def RowV (w : World) (v : Value) (ts : List Tm) : Prop := ∃ (a : Option Addr) (cap : Nat), v = .slice a ts.length cap ∧ ts.length ≤ maxLen ∧ (ts ≠ [] → ∃ b off, a = some ⟨b, off, none⟩ ∧ b < w.heap.size ∧ IsTms w.heap.size w b off ts)
theorem RowV.grow {w w' : World} {v : Value} {ts : List Tm} (h : RowV w v ts) (hb : Below w.heap.size w w') : RowV w' v ts := by
 obtain ⟨a, cap, hv, hl, hr⟩ := h
 refine ⟨a, cap, hv, hl, fun hne => ?_⟩
 obtain ⟨b, off, ha, hbl, hi⟩ := hr hne
 have := hb.size
 exact ⟨b, off, ha, by omega, (hi.below hb hbl).mono hb.size⟩
theorem Vals.tms {ex : Option Nat} {base : Nat} {w : World} {v : Value} {ts : List Tm} (h : Vals ex base w v ts) : RowV w v ts := by
 obtain ⟨xs, ho, hh, _⟩ := h
 have ho' := ho
 obtain ⟨_, ⟨rfl, hn⟩ | ⟨g, cap, cur, rfl, _, hg, hc, hm, _, _⟩⟩ := ho
 · refine ⟨none, 0, by rw [hn], by rw [hn]; exact Nat.zero_le _, fun hne => absurd (List.length_eq_zero_iff.1 hn) hne⟩
 · refine ⟨some ⟨g, 0, none⟩, cap, rfl, Nat.le_trans hc hm, fun _ => ⟨g, 0, rfl, (gL hg), ?_⟩⟩
   refine (HoldL.tms hh (off := 0) fun j u hu => ?_).isTms fun b hf => hf.2.1
   have := ho'.cells (g := g) rfl j u hu
   have hadd : (⟨g, 0, none⟩ : Addr).add j = ⟨g, j, none⟩ := by unfold Addr.add; split <;> simp_all
   rwa [hadd, show (⟨g, j, none⟩ : Addr) = ⟨g, 0 + j, none⟩ from by rw [Nat.zero_add]] at this

def Nums (base : Nat) (w : World) (v : Value) (l : List Int) : Prop := w.ownsRow base 3 1 v l.length (l.map (Value.int .i64))
theorem Nums.nil (base : Nat) (w : World) : Nums base w (.slice none 0 0) [] := World.ownsRow_nil _ _ _ _
theorem Nums.grow {base : Nat} {w w' : World} {v : Value} {l : List Int} (h : Nums base w v l) (hb : Below w.heap.size w w') : Nums base w' v l := own_grown h hb
end Go.Proofs.YtlmdhlckgbgfhaaGreatDoor
namespace Go.Proofs.YtlmdhlckgbgfhaaGreatDoor
open Go.RowKit

def IntV (w : World) (v : Value) (l : List Int) : Prop := ∃ (a : Option Addr) (cap : Nat), v = .slice a l.length cap ∧ l.length ≤ maxLen ∧
 (l ≠ [] → ∃ b off, a = some ⟨b, off, none⟩ ∧ b < w.heap.size ∧ ∀ i (h : i < l.length), w.cell? ⟨b, off + i, none⟩ = some (.int .i64 l[i]))
theorem IntV.keep {w w' : World} {v : Value} {l : List Int} (h : IntV w v l) (hs : w.heap.size ≤ w'.heap.size) (hc : ∀ b o x, w.cell? ⟨b, o, none⟩ = some x → w'.cell? ⟨b, o, none⟩ = some x) : IntV w' v l := by
 obtain ⟨a, cap, hv, hl, hr⟩ := h
 refine ⟨a, cap, hv, hl, fun hne => ?_⟩
 obtain ⟨b, off, ha, hb, hi⟩ := hr hne
 exact ⟨b, off, ha, by omega, fun i h => hc _ _ _ (hi i h)⟩
theorem IntV.grow {w w' : World} {v : Value} {l : List Int} (h : IntV w v l) (hb : Below w.heap.size w w') : IntV w' v l :=
 h.keep hb.size fun b o _ hx => (hb.cell (p := ⟨b, o, none⟩) (World.block_lt_of_cell? w ⟨b, o, none⟩ hx)).trans hx
theorem Nums.intV {base : Nat} {w : World} {v : Value} {l : List Int} (h : Nums base w v l) : IntV w v l := by
 have h0 := h
 obtain ⟨_, ⟨rfl, hn⟩ | ⟨g, cap, cur, rfl, _, hg, hc, hm, _, _⟩⟩ := h
 · exact ⟨none, 0, by rw [hn], by rw [hn]; exact Nat.zero_le _, fun hne => absurd (List.length_eq_zero_iff.1 hn) hne⟩
 · refine ⟨some ⟨g, 0, none⟩, cap, rfl, Nat.le_trans hc hm, fun _ => ⟨g, 0, rfl, (gL hg), fun i hi => ?_⟩⟩
   have := h0.cells (g := g) rfl i (.int .i64 l[i]) (by simp [hi])
   have hadd : (⟨g, 0, none⟩ : Addr).add i = ⟨g, i, none⟩ := by unfold Addr.add; split <;> simp_all
   rwa [hadd, show (⟨g, i, none⟩ : Addr) = ⟨g, 0 + i, none⟩ from by rw [Nat.zero_add]] at this

theorem outside_any (n : Int) (w : World) : Calls Tryz.prog 132 #[.int .i64 n] w fun e w' => e = .returned (.bool (outB n)) ∧ w = w' := by
 have hr : outB n = (decide (n < -2147483647) || decide (2147483647 < n)) := rfl
 have HR := Hi hr; clear hr
 by_cases h1 : n < -2147483647 <;> by_cases h2 : 2147483647 < n
 all_goals try (exfalso; omega)
 all_goals
   have H1 := Hi h1
   have H2 := Hi h2
   go_enter Tryz.func132, Tryz.ntmps132
   go_wp2
   go_ret
   exact ⟨by rw [HR.out]; simp [H1.out, H2.out], rfl⟩

def FirstOut (l : List Int) (e : Ending) : Prop := ∃ i : Int, e = .returned (.int .i64 i) ∧ (decide (0 ≤ i)) = l.any outB

theorem indexOut (l : List Int) (v : Value) (w : World) (hv : IntV w v l) :
   Calls Tryz.prog 160 #[v, .func (.func 132) #[] #[]] w fun e w' => FirstOut l e ∧ w = w' := by
 obtain ⟨a, cap, rfl, hl, hr⟩ := hv
 unfold maxLen at hl
 have HR := Hi hr; clear hr
 go_enter Tryz.func160, Tryz.ntmps160
 go_wp2
 go_loop [8] (fun i => ∃ j : Nat, j ≤ l.length ∧ i = .int .i64 j ∧ (l.take j).any outB = false) (fun i => l.length - (intOf i).toNat)
 case atStart => exact ⟨0, by omega, by go_num, rfl⟩
 case round =>
   obtain ⟨j, hj, rfl, hf⟩ := hrel
   have HF := Hi hf; clear hf
   by_cases hlt : j < l.length
   · obtain ⟨b, off, rfl, hb, hI⟩ := HR.out (by intro e; rw [e] at hlt; simp at hlt)
     have g0 := hI j hlt
     have hn := List.take_succ_eq_append_getElem hlt
     have HN := Hi hn
     clear hI hn
     cases ho : outB l[j]
     · have HO := Hi (show (l.take (j + 1)).any outB = false by rw [HN.out, List.any_append, HF.out]; simp [ho])
       have i1 : (0 : Int) ≤ (j : Int) := by omega
       have i2 : (j : Int) < (l.length : Int) := by omega
       have HC := Hi (outside_any l[j] w)
       rw [ho] at HC
       clear ho
       go_wp2_with (go_at_call 132; refine HC.out.mono ?_; rintro e w' ⟨rfl, rfl⟩)
       go_round
       case rel => exact ⟨j + 1, by omega, by go_num, HO.out⟩
       case measure => simp [intOf]; omega
     · have HO := Hi (show l.any outB = true by rw [List.any_eq_true]; exact ⟨l[j], List.getElem_mem hlt, ho⟩)
       have i1 : (0 : Int) ≤ (j : Int) := by omega
       have i2 : (j : Int) < (l.length : Int) := by omega
       have HC := Hi (outside_any l[j] w)
       rw [ho] at HC
       clear ho
       go_wp2_with (go_at_call 132; refine HC.out.mono ?_; rintro e w' ⟨rfl, rfl⟩)
       go_ret
       exact ⟨⟨_, rfl, by rw [HO.out]; simp⟩, rfl⟩
   · rw [List.take_of_length_le (by omega)] at HF
     go_wp2
     go_ret
     exact ⟨⟨_, rfl, by rw [HF.out]; rfl⟩, rfl⟩

theorem containsOut (l : List Int) (v : Value) (w : World) (hv : IntV w v l) :
   Calls Tryz.prog 131 #[v, .func (.func 132) #[] #[]] w fun e w' => e = .returned (.bool (l.any outB)) ∧ w = w' := by
 have HC := Hi (indexOut l v w hv); clear hv
 go_enter Tryz.func131, Tryz.ntmps131
 go_wp2_with (go_at_call 160; refine HC.out.mono ?_; clear HC; rintro e w' ⟨⟨i, rfl, hi⟩, rfl⟩)
 have HI := Hi hi; clear hi
 go_ret
 exact ⟨by rw [← HI.out]; rfl, rfl⟩

def fnAr : Ar → Nat
 | .neg => 121
 | .add => 122
 | .sub => 123
 | .mul => 124
 | .quo => 125
 | .rem => 126
def optPair : Option Int → Value
 | none => .tuple #[.int .i64 0, .bool false]
 | some n => .tuple #[.int .i64 n, .bool true]
theorem wrap_in {n : Int} (h : -9223372036854775808 ≤ n ∧ n ≤ 9223372036854775807) : IntKind.i64.wrap n = n := IntWalk.i64_in _ (by omega)
theorem mul_in {a b : Int} (ha : outB a = false) (hb : outB b = false) : -9223372036854775808 ≤ a * b ∧ a * b ≤ 9223372036854775807 := by
 have ha := outB_false.1 ha
 have hb := outB_false.1 hb
 have h1 : (a * b).natAbs ≤ 2147483647 * 2147483647 := by
   rw [Int.natAbs_mul]
   exact Nat.mul_le_mul (by omega) (by omega)
 omega
theorem intV_cells {w : World} {v : Value} {l : List Int} (h : IntV w v l) (hl : 0 < l.length) : ∃ b off cap, v = .slice (some ⟨b, off, none⟩) l.length cap ∧ l.length ≤ maxLen ∧ b < w.heap.size ∧ ∀ i (h : i < l.length), w.cell? ⟨b, off + i, none⟩ = some (.int .i64 l[i]) := by
 obtain ⟨a, cap, rfl, hm, hr⟩ := h
 obtain ⟨b, off, rfl, hb, hi⟩ := hr (by intro e; rw [e] at hl; simp at hl)
 exact ⟨b, off, cap, rfl, hm, hb, hi⟩

theorem neg_any (a : Int) (v : Value) (w : World) (hv : IntV w v [a]) (ha : outB a = false) :
   Calls Tryz.prog 121 #[v] w fun e w' => e = .returned (optPair (Ar.run .neg a 0)) ∧ ∃ n, w' = w.drewN n := by
 obtain ⟨b, off, cap, rfl, _, hb, hI⟩ := intV_cells hv (by simp)
 have g0 : w.cell? ⟨b, off, none⟩ = some (.int .i64 a) := hI 0 (by simp)
 have ha := outB_false.1 ha
 obtain ⟨a1, a2⟩ := ha
 clear hI hv
 go_enter Tryz.func121, Tryz.ntmps121
 go_wp2
 go_ret2
 exact ⟨rfl, 0, rfl⟩

theorem add_any (a b : Int) (v : Value) (w : World) (hv : IntV w v [a, b]) (ha : outB a = false) (hb : outB b = false) :
   Calls Tryz.prog 122 #[v] w fun e w' => e = .returned (optPair (Ar.run .add a b)) ∧ ∃ n, w' = w.drewN n := by
 obtain ⟨p, off, cap, rfl, _, hp, hI⟩ := intV_cells hv (by simp)
 have g0 : w.cell? ⟨p, off, none⟩ = some (.int .i64 a) := hI 0 (by simp)
 have g1 : w.cell? ⟨p, off + 1, none⟩ = some (.int .i64 b) := hI 1 (by simp)
 obtain ⟨a1, a2⟩ := outB_false.1 ha
 obtain ⟨b1, b2⟩ := outB_false.1 hb
 have hw : IntKind.i64.wrap (a + b) = a + b := wrap_in (by omega)
 clear hI hv ha hb
 go_enter Tryz.func122, Tryz.ntmps122
 go_wp2
 go_quiet (fail)
 go_wp2
 go_ret2
 exact ⟨rfl, _, rfl⟩
theorem sub_any (a b : Int) (v : Value) (w : World) (hv : IntV w v [a, b]) (ha : outB a = false) (hb : outB b = false) :
   Calls Tryz.prog 123 #[v] w fun e w' => e = .returned (optPair (Ar.run .sub a b)) ∧ ∃ n, w' = w.drewN n := by
 obtain ⟨p, off, cap, rfl, _, hp, hI⟩ := intV_cells hv (by simp)
 have g0 : w.cell? ⟨p, off, none⟩ = some (.int .i64 a) := hI 0 (by simp)
 have g1 : w.cell? ⟨p, off + 1, none⟩ = some (.int .i64 b) := hI 1 (by simp)
 obtain ⟨a1, a2⟩ := outB_false.1 ha
 obtain ⟨b1, b2⟩ := outB_false.1 hb
 have hw : IntKind.i64.wrap (a - b) = a - b := wrap_in (by omega)
 clear hI hv ha hb
 go_enter Tryz.func123, Tryz.ntmps123
 go_wp2
 go_quiet (fail)
 go_wp2
 go_ret2
 exact ⟨rfl, _, rfl⟩

theorem mul_any (a b : Int) (v : Value) (w : World) (hv : IntV w v [a, b]) (ha : outB a = false) (hb : outB b = false) :
   Calls Tryz.prog 124 #[v] w fun e w' => e = .returned (optPair (Ar.run .mul a b)) ∧ ∃ n, w' = w.drewN n := by
 obtain ⟨p, off, cap, rfl, _, hp, hI⟩ := intV_cells hv (by simp)
 have g0 : w.cell? ⟨p, off, none⟩ = some (.int .i64 a) := hI 0 (by simp)
 have g1 : w.cell? ⟨p, off + 1, none⟩ = some (.int .i64 b) := hI 1 (by simp)
 obtain ⟨a1, a2⟩ := outB_false.1 ha
 obtain ⟨b1, b2⟩ := outB_false.1 hb
 have hw : IntKind.i64.wrap (a * b) = a * b := wrap_in (mul_in ha hb)
 clear hI hv ha hb
 go_enter Tryz.func124, Tryz.ntmps124
 go_wp2
 go_quiet (fail)
 go_wp2
 go_ret2
 exact ⟨rfl, _, rfl⟩

theorem tdiv_in {a b : Int} (ha : outB a = false) (hb : outB b = false) : -9223372036854775808 ≤ a.tdiv b ∧ a.tdiv b ≤ 9223372036854775807 := by
 have ha := outB_false.1 ha
 have hb := outB_false.1 hb
 have h1 : (a.tdiv b).natAbs ≤ 2147483647 := by
   rw [Int.natAbs_tdiv]
   exact Nat.le_trans (Nat.div_le_self _ _) (by omega)
 omega
theorem quo_any (a b : Int) (v : Value) (w : World) (hv : IntV w v [a, b]) (ha : outB a = false) (hb : outB b = false) :
   Calls Tryz.prog 125 #[v] w fun e w' => e = .returned (optPair (Ar.run .quo a b)) ∧ ∃ n, w' = w.drewN n := by
 obtain ⟨p, off, cap, rfl, _, hp, hI⟩ := intV_cells hv (by simp)
 have g0 : w.cell? ⟨p, off, none⟩ = some (.int .i64 a) := hI 0 (by simp)
 have g1 : w.cell? ⟨p, off + 1, none⟩ = some (.int .i64 b) := hI 1 (by simp)
 obtain ⟨a1, a2⟩ := outB_false.1 ha
 obtain ⟨b1, b2⟩ := outB_false.1 hb
 have hw : IntKind.i64.wrap (a.tdiv b) = a.tdiv b := wrap_in (tdiv_in ha hb)
 clear hI hv ha hb
 by_cases h0 : b = 0
 · subst h0
   go_enter Tryz.func125, Tryz.ntmps125
   go_wp2
   go_ret2
   exact ⟨rfl, 0, rfl⟩
 · have hr : Ar.run .quo a b = some (a.tdiv b) := if_neg h0
   have HR := Hi hr
   have hb0 : (b == 0) = false := by simpa using h0
   have HB := Hi h0
   clear hr
   go_enter Tryz.func125, Tryz.ntmps125
   go_wp2
   go_quiet (fail)
   go_wp2
   go_ret2
   exact ⟨by rw [HR.out]; rfl, _, rfl⟩

theorem tmod_in {a b : Int} (ha : outB a = false) (hb : outB b = false) : -9223372036854775808 ≤ a.tmod b ∧ a.tmod b ≤ 9223372036854775807 := by
 have ha := outB_false.1 ha
 have hb := outB_false.1 hb
 have h1 : (a.tmod b).natAbs ≤ 2147483647 := by
   rw [Int.natAbs_tmod]
   exact Nat.le_trans (Nat.mod_le _ _) (by omega)
 omega
theorem rem_any (a b : Int) (v : Value) (w : World) (hv : IntV w v [a, b]) (ha : outB a = false) (hb : outB b = false) :
   Calls Tryz.prog 126 #[v] w fun e w' => e = .returned (optPair (Ar.run .rem a b)) ∧ ∃ n, w' = w.drewN n := by
 obtain ⟨p, off, cap, rfl, _, hp, hI⟩ := intV_cells hv (by simp)
 have g0 : w.cell? ⟨p, off, none⟩ = some (.int .i64 a) := hI 0 (by simp)
 have g1 : w.cell? ⟨p, off + 1, none⟩ = some (.int .i64 b) := hI 1 (by simp)
 obtain ⟨a1, a2⟩ := outB_false.1 ha
 obtain ⟨b1, b2⟩ := outB_false.1 hb
 have hw : IntKind.i64.wrap (a.tmod b) = a.tmod b := wrap_in (tmod_in ha hb)
 clear hI hv ha hb
 by_cases h0 : b = 0
 · subst h0
   go_enter Tryz.func126, Tryz.ntmps126
   go_wp2
   go_ret2
   exact ⟨rfl, 0, rfl⟩
 · have hr : Ar.run .rem a b = some (a.tmod b) := if_neg h0
   have HR := Hi hr
   have hb0 : (b == 0) = false := by simpa using h0
   have HB := Hi h0
   clear hr
   go_enter Tryz.func126, Tryz.ntmps126
   go_wp2
   go_quiet (fail)
   go_wp2
   go_ret2
   exact ⟨by rw [HR.out]; rfl, _, rfl⟩
end Go.Proofs.YtlmdhlckgbgfhaaGreatDoor
namespace Go.Proofs.YtlmdhlckgbgfhaaGreatDoor
open Go.RowKit

def boom : List PanicEntry := [{ v := .iface 32 (.int .i64 5), recovered := false }]

theorem limit_ok (n : Int) (h : n ≤ 1000) (w : World) : Calls Tryz.prog 82 #[.int .i64 n] w fun e w' => e = .returned (.tuple #[]) ∧ w = w' := by
 go_enter Tryz.func82, Tryz.ntmps82
 go_wp2
 go_end0
 exact ⟨rfl, rfl⟩
theorem limit_far (n : Int) (h : 1000 < n) (w : World) : Calls Tryz.prog 82 #[.int .i64 n] w fun e w' => e = .panicked boom ∧ w = w' := by
 go_enter Tryz.func82, Tryz.ntmps82
 go_wp2
 exact ⟨rfl, rfl, rfl⟩

theorem integer_any (n : Int) (w : World) : Calls Tryz.prog 90 #[.int .i64 n] w fun e w' => e = .returned (.agg #[.int .u8 1, .int .i64 n, .string ⟨#[]⟩, .slice none 0 0]) ∧ Below w.heap.size w w' := by
 go_enter Tryz.func90, Tryz.ntmps90
 go_wp2
 refine bodyPost_ret (v := .agg #[.int .u8 1, .int .i64 n, .string ⟨#[]⟩, .slice none 0 0]) (by simp [results, Tryz.f90, go_sem]) rfl ?_
 exact ⟨rfl, (Below.refl _ w).alloc (Nat.le_refl _) _⟩

theorem intsOf_take {ts : List Tm} {j : Nat} (hj : j < ts.length) : intsOf (ts.take (j + 1)) = intsOf (ts.take j) ++ (if ts[j].kind = 1 then [ts[j].num] else []) := by
 unfold intsOf
 rw [List.take_succ_eq_append_getElem hj, List.filterMap_append]
 congr 1
 simp only [List.filterMap_cons, List.filterMap_nil]
 split <;> split <;> simp_all
theorem intsOf_one {ts : List Tm} {j : Nat} (hj : j < ts.length) {k n : Int} {s : ByteArray} {us : List Tm} (h : ts[j] = .mk k n s us) (hk : k = 1) : intsOf (ts.take (j + 1)) = intsOf (ts.take j) ++ [n] := by
 rw [intsOf_take hj, if_pos (by rw [h]; exact hk), h]; rfl
theorem intsOf_no {ts : List Tm} {j : Nat} (hj : j < ts.length) {k n : Int} {s : ByteArray} {us : List Tm} (h : ts[j] = .mk k n s us) (hk : k ≠ 1) : intsOf (ts.take (j + 1)) = intsOf (ts.take j) := by
 rw [intsOf_take hj, if_neg (by rw [h]; exact hk), List.append_nil]
theorem intsOf_le (ts : List Tm) : (intsOf ts).length ≤ ts.length := List.length_filterMap_le _ _
theorem info_int : (Tryz.prog.info? 3).map (fun i => (i.zero, i.size, i.bytes)) = some (some (.int .i64 0), 1, 8) := by kernel_rfl
theorem info_term : (Tryz.prog.info? 24).map (fun i => (i.zero, i.size, i.bytes)) = some (some (.agg #[.int .u8 0, .int .i64 0, .string ⟨#[]⟩, .slice none 0 0]), 4, 56) := by kernel_rfl

theorem integers_any (ts : List Tm) (v : Value) (w : World) (hv : RowV w v ts) (hlen : ts.length ≤ 1000000) :
   Calls Tryz.prog 84 #[v] w fun e w' => ∃ v', e = .returned v' ∧ Nums w.heap.size w' v' (intsOf ts) ∧ Below w.heap.size w w' := by
 obtain ⟨a, cap, rfl, _, hr⟩ := hv
 have HR := Hi hr; clear hr
 obtain ⟨i0, hi, hz0, hz1, hz2⟩ := info_parts info_int
 go_enter Tryz.func84, Tryz.ntmps84
 go_wp2_with fail
 go_loopw [3, 8] (fun v i wr => ∃ j : Nat, j ≤ ts.length ∧ i = .int .i64 j ∧ Nums w.heap.size wr v (intsOf (ts.take j)) ∧ Below w.heap.size w wr) (fun _ i _ => ts.length - (intOf i).toNat)
 case atStart => exact ⟨0, by omega, by go_num, Nums.nil _ _, Below.refl _ _⟩
 case round =>
   obtain ⟨j, hj, rfl, hN, hBr⟩ := hrel
   by_cases hlt : j < ts.length
   · obtain ⟨b, off, rfl, hb, hI⟩ := HR.out (by intro e; rw [e] at hlt; simp at hlt)
     obtain ⟨c0, c1, c2, c3, e0, e1, e2, e3, hc⟩ := hI.at j hlt
     have g0 := (hBr.cell (p := ⟨b, off + j * 4, none⟩) (by show b < _; omega)).trans e0
     have g1 := (hBr.cell (p := ⟨b, off + j * 4 + 1, none⟩) (by show b < _; omega)).trans e1
     have g2 := (hBr.cell (p := ⟨b, off + j * 4 + 2, none⟩) (by show b < _; omega)).trans e2
     have g3 := (hBr.cell (p := ⟨b, off + j * 4 + 3, none⟩) (by show b < _; omega)).trans e3
     have hsz := hBr.size
     have hle := intsOf_le (ts.take j)
     have htl : (ts.take j).length = j := by simp; omega
     obtain ⟨k', n', s', as', hq⟩ : ∃ k' n' s' as', ts[j] = .mk k' n' s' as' := by cases ts[j]; exact ⟨_, _, _, _, rfl⟩
     rw [hq] at hc
     simp only [IsTm] at hc
     obtain ⟨rfl, _, rfl, hn', rfl, _, a', cap', rfl, _, _⟩ := hc
     have HQ := Hi hq
     have HB := Hi hBr
     have HN := Hi hN
     have HI' := Hi hn'
     clear e0 e1 e2 e3 hBr hq hI hN hn'
     have i1 : (0 : Int) ≤ (j : Int) := by omega
     have i2 : (j : Int) < (ts.length : Int) := by omega
     by_cases hk : k' = 1
     · subst hk
       have HT := Hi (intsOf_one hlt HQ.out rfl)
       have hB2 : Below wr.heap.size wr ((wr.alloc (.cells #[.int .u8 1, .int .i64 n', .string s', .slice a' as'.length cap'] 24)).alloc (.cells #[.int .i64 n'] 3)) := ((Below.refl _ wr).alloc (Nat.le_refl _) _).alloc (by simp) _
       have HB2 := Hi hB2
       clear hB2
       go_wp2_with (at_builtin; refine wpList_append_own _ rfl _ _ 125 rfl w.heap.size 3 i0 _ 1 8 Tryz.underlying125 hi hz0 hz1 hz2 rfl (by decide) _ _ _ rfl (HN.out.grow HB2.out) ⟨wr.heap.size + 1, 0, none⟩ 1 1 [.int .i64 n'] rfl rfl ?c1 ?c2 ?c3 ?c4 ?c5 ?_)
       case c1 =>
         intro jj u hu
         rcases jj with _ | jj
         · cases hu
           have := World.alloc_heap_new (wr.alloc (.cells #[.int .u8 1, .int .i64 n', .string s', .slice a' as'.length cap'] 24)) (.cells #[.int .i64 n'] 3)
           rw [World.size_alloc] at this
           exact cells_at this 0 _ rfl
         · simp at hu
       case c2 => simp [Value.oneCell']
       case c3 => unfold maxLen; omega
       case c4 => omega
       case c5 => have := HB2.out.size; omega
       intro v' w1 hown hg _
       have HO := Hi hown
       have HG := Hi hg
       clear hown hg
       go_wp2
       go_roundw
       case rel =>
         refine ⟨j + 1, by omega, by go_num, ?_, ?_⟩
         · unfold Nums
           rw [HT.out]
           simpa using HO.out
         · exact (HB.out.trans (HB2.out.mono hsz)).grown HG.out (by have := HB2.out.size; omega) (fun k e => (HN.out.lt k e).1)
       case measure => simp [intOf]; omega
     · have hk1 : (k' == 1) = false := by simpa using hk
       have HT := Hi (intsOf_no hlt HQ.out hk)
       clear hk
       have hB2 : Below wr.heap.size wr (wr.alloc (.cells #[.int .u8 k', .int .i64 n', .string s', .slice a' as'.length cap'] 24)) := (Below.refl _ wr).alloc (Nat.le_refl _) _
       have HB2 := Hi hB2
       clear hB2
       go_wp2
       go_roundw
       case rel => exact ⟨j + 1, by omega, by go_num, by rw [HT.out]; exact HN.out.grow HB2.out, HB.out.trans (HB2.out.mono hsz)⟩
       case measure => simp [intOf]; omega
   · rw [List.take_of_length_le (by omega)] at hN
     have HN := Hi hN
     have HB := Hi hBr
     clear hN hBr
     go_wp2
     go_ret
     exact ⟨_, rfl, HN.out, HB.out⟩
end Go.Proofs.YtlmdhlckgbgfhaaGreatDoor
