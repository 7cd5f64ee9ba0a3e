/- The law of quotients holds. -/
import Derived.Test.YteaiocdopjekhaaGreatDoorBd
namespace Go.Proofs.YteaiocdopjekhaaGreatDoor
open Go.RowKit

theorem rem_facts {a b : Int} (ha : outB a = false) (hb : outB b = false) (h0 : b ≠ 0) :
    outB (a.tdiv b) = false ∧ outB (a.tmod b) = false ∧ a.tdiv b * b + a.tmod b = a ∧ (a.tmod b < 0 → a < 0) ∧ (a.tmod b > 0 → a > 0) ∧ (a.tmod b).natAbs < b.natAbs := by
  have ha := outB_false.1 ha
  have hb := outB_false.1 hb
  have h1 : (a.tmod b).natAbs = a.natAbs % b.natAbs := Int.natAbs_tmod a b
  have h2 : a.natAbs % b.natAbs < b.natAbs := Nat.mod_lt _ (by omega)
  have h3 : (a.tdiv b).natAbs = a.natAbs / b.natAbs := Int.natAbs_tdiv a b
  have h4 : a.natAbs / b.natAbs ≤ a.natAbs := Nat.div_le_self _ _
  have h5 : b * a.tdiv b + a.tmod b = a := Int.mul_tdiv_add_tmod a b
  have h6 : a.natAbs % b.natAbs ≤ a.natAbs := Nat.mod_le _ _
  refine ⟨outB_false.2 (by omega), outB_false.2 (by omega), by rw [Int.mul_comm]; exact h5, ?_, ?_, by omega⟩
  · intro h
    apply Decidable.byContradiction
    intro hc
    have := Int.tmod_nonneg b (show 0 ≤ a by omega)
    omega
  · intro h
    apply Decidable.byContradiction
    intro hc
    have h7 := Int.tmod_nonneg b (show 0 ≤ -a by omega)
    rw [Int.neg_tmod] at h7
    omega

set_option maxHeartbeats 2000000 in
theorem divides_any (a b : Int) (w : World) (HAW : ∀ w, Calls Tryz.prog 8 #[] w fun e w' => e = .returned (.bool true) ∧ Below w.heap.size w w') :
    Calls Tryz.prog 5 #[.int .i64 a, .int .i64 b] w fun e w' => e = .returned (.bool true) ∧ Below w.heap.size w w' := by
  have h47 := calcIs 47 [a, b] (by simp)
  have h92 := calcIs 92 [a, b] (by simp)
  have h43 := calcIs 43 [a, b] (by simp)
  have h43' := calcIs 43 [b, a] (by simp)
  have h42 := calcIs 42 [a, b] (by simp)
  have h42' := calcIs 42 [b, a] (by simp)
  have h45 := calcIs 45 [a, b] (by simp)
  have hn := calcIs 45 [b] (by simp)
  have hx := calcIs 43 [a, (calcI [45] [b]).getD 0] (by simp)
  have en : calcI [45] [b] = if outB b then none else some (-b) := by
    cases hb : outB b
    · have : outB (-b) = false := outB_false.2 (by have := outB_false.1 hb; omega)
      simp [calcI, arOf, applyI, Ar.run, hb, this]
    · simp [calcI, arOf, applyI, hb]
  cases hi : (outB a || outB b) with
  | true =>
    have e1 : ∀ op, calcI [op] [a, b] = none := by
      intro op
      unfold calcI
      cases arOf [op] [a, b].length with
      | none => rfl
      | some o => simp only [applyI, List.any_cons, List.any_nil, Bool.or_false, hi, if_true]
    have e2 : ∀ op, calcI [op] [b, a] = none := by
      intro op
      unfold calcI
      rw [Bool.or_comm] at hi
      cases arOf [op] [b, a].length with
      | none => rfl
      | some o => simp only [applyI, List.any_cons, List.any_nil, Bool.or_false, hi, if_true]
    rw [e1] at h47 h92 h43 h42 h45
    rw [e2] at h43' h42'
    have hins : (((((decide (((a : Int)) ≥ (-2147483647))) && (decide (((a : Int)) ≤ (2147483647)))) && (decide (((b : Int)) ≥ (-2147483647)))) && (decide (((b : Int)) ≤ (2147483647))))) = false := by
      rw [Bool.eq_false_iff]
      intro hc
      simp only [Bool.and_eq_true, decide_eq_true_eq] at hc
      have h1 : outB a = false := outB_false.2 (by omega)
      have h2 : outB b = false := outB_false.2 (by omega)
      rw [h1, h2] at hi
      cases hi
    refine divides_walk a b _ _ _ _ _ _ _ _ _ _ _ _ _ _ _ _ _ _ _ w HAW hins h47 h92 h43 h43' h42 h42' h45 hn hx ?_ ?_ ?_ ?_
    · rfl
    · rfl
    · rw [en]
      cases hb : outB b with
      | true =>
        have : ((decide (((b : Int)) ≥ (-2147483647))) && (decide (((b : Int)) ≤ (2147483647)))) = false := by
          rw [Bool.eq_false_iff]
          intro hc
          simp only [Bool.and_eq_true, decide_eq_true_eq] at hc
          rw [outB_false.2 (by omega)] at hb
          cases hb
        rw [this]; rfl
      | false =>
        have hb' := outB_false.1 hb
        have : ((decide (((b : Int)) ≥ (-2147483647))) && (decide (((b : Int)) ≤ (2147483647)))) = true := by
          simp only [Bool.and_eq_true, decide_eq_true_eq]; omega
        rw [this, wrap_in (show -9223372036854775808 ≤ -b ∧ -b ≤ 9223372036854775807 by omega)]
        simp
    · rfl
  | false =>
    simp only [Bool.or_eq_false_iff] at hi
    obtain ⟨ia, ib⟩ := hi
    have ha := outB_false.1 ia
    have hb := outB_false.1 ib
    rw [ib] at en
    simp only [Bool.false_eq_true, if_false] at en
    have w1 : IntKind.i64.wrap (a + b) = a + b := wrap_in (by omega)
    have w2 : IntKind.i64.wrap (a - b) = a - b := wrap_in (by omega)
    have w3 : IntKind.i64.wrap (a * b) = a * b := wrap_in (mul_in ia ib)
    have w4 : IntKind.i64.wrap (-b) = -b := wrap_in (by omega)
    have inb : outB (-b) = false := outB_false.2 (by omega)
    have eS : calcI [43] [a, b] = if outB (a + b) then none else some (a + b) := by simp [calcI, arOf, applyI, Ar.run, ia, ib]
    have eT : calcI [43] [b, a] = if outB (a + b) then none else some (a + b) := by simp [calcI, arOf, applyI, Ar.run, ia, ib, Int.add_comm]
    have eP : calcI [42] [a, b] = if outB (a * b) then none else some (a * b) := by simp [calcI, arOf, applyI, Ar.run, ia, ib]
    have eU : calcI [42] [b, a] = if outB (a * b) then none else some (a * b) := by simp [calcI, arOf, applyI, Ar.run, ia, ib, Int.mul_comm]
    have eD : calcI [45] [a, b] = if outB (a - b) then none else some (a - b) := by simp [calcI, arOf, applyI, Ar.run, ia, ib]
    have eX : calcI [43] [a, -b] = if outB (a - b) then none else some (a - b) := by simp [calcI, arOf, applyI, Ar.run, ia, inb, Int.sub_eq_add_neg]
    have fit : ∀ n, ((decide (((n : Int)) ≥ (-2147483647))) && (decide (((n : Int)) ≤ (2147483647)))) = !(outB n) := by
      intro n
      unfold outB
      rw [Bool.eq_iff_iff]
      simp only [Bool.and_eq_true, decide_eq_true_eq, Bool.not_eq_true', Bool.or_eq_false_iff, decide_eq_false_iff_not]
      omega
    have hins : (((((decide (((a : Int)) ≥ (-2147483647))) && (decide (((a : Int)) ≤ (2147483647)))) && (decide (((b : Int)) ≥ (-2147483647)))) && (decide (((b : Int)) ≤ (2147483647))))) = true := by
      simp only [Bool.and_eq_true, decide_eq_true_eq]; omega
    rw [eS] at h43
    rw [eT] at h43'
    rw [eP] at h42
    rw [eU] at h42'
    rw [eD] at h45
    rw [en] at hn hx
    simp only [Option.getD_some] at hx
    rw [eX] at hx
    refine divides_walk a b _ _ _ _ _ _ _ _ _ _ _ _ _ _ _ _ _ _ _ w HAW hins h47 h92 h43 h43' h42 h42' h45 hn hx ?_ ?_ ?_ ?_
    · by_cases h0 : b = 0
      · subst h0
        have e1 : calcI [47] [a, 0] = none := by simp [calcI, arOf, applyI, Ar.run, ia, ib]
        have e2 : calcI [92] [a, 0] = none := by simp [calcI, arOf, applyI, Ar.run, ia, ib]
        rw [e1, e2]; rfl
      · obtain ⟨o1, o2, _⟩ := rem_facts ia ib h0
        have e1 : calcI [47] [a, b] = some (a.tdiv b) := by simp [calcI, arOf, applyI, Ar.run, ia, ib, h0, o1]
        have e2 : calcI [92] [a, b] = some (a.tmod b) := by simp [calcI, arOf, applyI, Ar.run, ia, ib, h0, o2]
        rw [e1, e2]
        simp [h0]
    · by_cases h0 : b = 0
      · subst h0
        have e1 : calcI [47] [a, 0] = none := by simp [calcI, arOf, applyI, Ar.run, ia, ib]
        rw [e1]; rfl
      · obtain ⟨o1, o2, hs, hl, hg, hm⟩ := rem_facts ia ib h0
        have e1 : calcI [47] [a, b] = some (a.tdiv b) := by simp [calcI, arOf, applyI, Ar.run, ia, ib, h0, o1]
        have e2 : calcI [92] [a, b] = some (a.tmod b) := by simp [calcI, arOf, applyI, Ar.run, ia, ib, h0, o2]
        rw [e1, e2]
        simp only [Option.getD_some, Option.isSome_some, Bool.true_and]
        have o2' := outB_false.1 o2
        have w5 := wrap_in (show -9223372036854775808 ≤ a.tdiv b * b ∧ a.tdiv b * b ≤ 9223372036854775807 by omega)
        have w6 := wrap_in (show -9223372036854775808 ≤ a ∧ a ≤ 9223372036854775807 by omega)
        have w7 := wrap_in (show -9223372036854775808 ≤ -(a.tmod b) ∧ -(a.tmod b) ≤ 9223372036854775807 by omega)
        simp only [w4, w5, hs, w6, w7]
        simp only [bne_self_eq_false, Bool.false_or, Bool.or_eq_false_iff, Bool.and_eq_false_iff, decide_eq_false_iff_not]
        have hmax : (max b (-b) : Int) = b.natAbs := by omega
        rw [hmax]
        omega
    · rw [fit, ib, w1, w2, w3, w4]
      cases outB (a + b) <;> cases outB (a * b) <;> cases outB (a - b) <;> simp
    · rw [w1, w3, fit, fit]
      cases outB (a + b) <;> cases outB (a * b) <;> cases outB (a - b) <;> simp
end Go.Proofs.YteaiocdopjekhaaGreatDoor
