/- Package match: the mathematics of MatchLaws. -/
import Derived.Test.YtaacmdjaaeacfaaGreatDoorWk
import Derived.Test.YtaacmdjaaeacfaaGreatDoorWHw
import Derived.Test.YtaacmdjaaeacfaaGreatDoorWHx
import Derived.Test.YtaacmdjaaeacfaaGreatDoorWm
namespace Go.Proofs.YtaacmdjaaeacfaaGreatDoor
open Go.RowKit Go.Shelf

theorem prs_closed (b : Bd) : ∀ x ∈ prs b, x.2.closedB = true := by
  unfold prs
  split
  · rename_i h
    exact fun x hx => flat_closed _ (value_parts ((valid_spec h).2 x hx).2).2
  · intro x hx; cases hx
theorem laws_twice (b : Bd) (t : Tm) : applyT (prs b) (applyT (prs b) t) = applyT (prs b) t := apply_twice (prs_closed b) t
theorem laws_none {b : Bd} (h : validBd b = false) (t : Tm) : applyT (prs b) t = t := by
  have e : prs b = [] := by unfold prs; rw [h]; rfl
  rw [e]; exact apply_nil t
theorem laws_bind (b : Bd) (nm : ByteArray) (v : Tm) : (bindM b nm v).isSome = (validBd b && (variableB nm && (v.valueB && (!(lookB (prs b) nm).isSome || (Tm.cmp (getT (prs b) nm) v == 0))))) := by
  unfold bindM
  cases hb : validBd b with
  | false => simp
  | true =>
    have e : prs b = b := by unfold prs; rw [if_pos hb]
    rw [e]
    cases variableB nm with
    | false => simp
    | true =>
      cases v.valueB with
      | false => simp
      | true =>
        simp only [Bool.and_self, if_true, Bool.true_and]
        unfold bindB getT
        cases hl : lookB b nm with
        | none => simp
        | some u =>
          simp only [Option.isSome_some, Bool.not_true, Bool.false_or, Option.getD_some]
          cases (Tm.cmp u v == 0) <;> simp
theorem ext_self {b : Bd} (hs : Srt b) (hg : ∀ x ∈ b, x.2.Good) : b.all (extB b) = true := by
  refine List.all_eq_true.2 fun x hx => ?_
  unfold extB getT
  rw [look_srt hs hx]
  simp only [Option.isSome_some, Option.getD_some, Bool.true_and, beq_iff_eq]
  exact (cmp_zero _ _ (hg x hx) (hg x hx)).2 rfl
theorem laws_new {b c : Bd} {nm : ByteArray} {v : Tm} (h : bindM b nm v = some c) : validBd b = true ∧ validBd c = true ∧ (lookB (prs c) nm).isSome = true ∧ (Tm.cmp (getT (prs c) nm) v == 0) = true ∧ c.length = b.length + (if (lookB (prs b) nm).isSome then 0 else 1) ∧ b.all (extB (prs c)) = true := by
  unfold bindM at h
  split at h
  case isFalse => cases h
  rename_i hv
  simp only [Bool.and_eq_true] at hv
  obtain ⟨hb, hn, hvv⟩ := hv
  have hs := valid_spec hb
  have hg : ∀ x ∈ b, x.2.Good := fun x hx => value_good (hs.2 x hx).2
  have hvg := value_good hvv
  have eb : prs b = b := by unfold prs; rw [if_pos hb]
  rcases (bindB_some hs.1 hg hvg).1 h with ⟨hl, rfl⟩ | ⟨hl, rfl⟩
  · refine ⟨hb, hb, by rw [eb, hl]; rfl, ?_, by rw [eb, hl]; simp, by rw [eb]; exact ext_self hs.1 hg⟩
    rw [eb]
    unfold getT
    rw [hl, beq_iff_eq]
    exact (cmp_zero _ _ hvg hvg).2 rfl
  · have hs' := insB_srt (v := v) hs.1 hl
    have hval : ∀ x ∈ insB b nm v, variableB x.1 = true ∧ x.2.valueB = true := fun x hx => by
      rcases insB_mem.1 hx with rfl | hx
      · exact ⟨hn, hvv⟩
      · exact hs.2 x hx
    have hc : validBd (insB b nm v) = true := valid_of hs' hval
    have ec : prs (insB b nm v) = insB b nm v := by unfold prs; rw [if_pos hc]
    have hlk := ins_look (v := v) hs.1 hl
    refine ⟨hb, hc, by rw [ec, hlk, if_pos rfl]; rfl, ?_, by rw [eb, hl, insB_length]; simp, ?_⟩
    · rw [ec]
      unfold getT
      rw [hlk, if_pos rfl, beq_iff_eq]
      exact (cmp_zero _ _ hvg hvg).2 rfl
    · rw [ec]
      refine List.all_eq_true.2 fun x hx => ?_
      have h1 := look_srt hs.1 hx
      have h2 : lookB (insB b nm v) x.1 = some x.2 := by
        rw [hlk, if_neg (fun e => by rw [e, hl] at h1; cases h1)]; exact h1
      unfold extB getT
      rw [h2]
      simp only [Option.isSome_some, Option.getD_some, Bool.true_and, beq_iff_eq]
      exact (cmp_zero _ _ (hg x hx) (hg x hx)).2 rfl
end Go.Proofs.YtaacmdjaaeacfaaGreatDoor
