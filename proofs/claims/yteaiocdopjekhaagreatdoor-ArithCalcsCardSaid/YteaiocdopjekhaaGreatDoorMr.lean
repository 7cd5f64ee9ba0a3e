/- The reference model's Calc. -/
import Derived.Test.YteaiocdopjekhaaGreatDoorAf
import Derived.Test.YteaiocdopjekhaaGreatDoorOr
import Derived.IntWalk
namespace Go.Proofs.YteaiocdopjekhaaGreatDoor
open Go.RowKit

theorem rem_parts {a b : Int} (ha : outB a = false) (hb : outB b = false) (h0 : b ≠ 0) :
    outB (a.tdiv b) = false ∧ outB (a.tmod b) = false ∧ a.tdiv b * b + a.tmod b = a ∧ (a.tmod b < 0 → a < 0) ∧ (a.tmod b > 0 → a > 0) ∧ (a.tmod b).natAbs < b.natAbs := by
  have ha := outB_false.1 ha
  have hb := outB_false.1 hb
  have h1 : (a.tmod b).natAbs = a.natAbs % b.natAbs := Int.natAbs_tmod a b
  have h2 : a.natAbs % b.natAbs < b.natAbs := Nat.mod_lt _ (by omega)
  have h3 : (a.tdiv b).natAbs = a.natAbs / b.natAbs := Int.natAbs_tdiv a b
  have h4 : a.natAbs / b.natAbs ≤ a.natAbs := Nat.div_le_self _ _
  have h5 : b * a.tdiv b + a.tmod b = a := Int.mul_tdiv_add_tmod a b
  have h6 : a.natAbs % b.natAbs ≤ a.natAbs := Nat.mod_le _ _
  refine ⟨outB_false.2 (by omega), outB_false.2 (by omega), by rw [Int.mul_comm]; exact h5, ?_, ?_, by omega⟩
  · intro h
    apply Decidable.byContradiction
    intro hc
    have := Int.tmod_nonneg b (show 0 ≤ a by omega)
    omega
  · intro h
    apply Decidable.byContradiction
    intro hc
    have h7 := Int.tmod_nonneg b (show 0 ≤ -a by omega)
    rw [Int.neg_tmod] at h7
    omega

set_option maxHeartbeats 400000 in
theorem fits_any (n : Int) (w : World) : Calls Tryz.prog 34 #[.int .i64 n] w fun e w' => e = .returned (.bool (!(outB n))) ∧ w = w' := by
  have HR := Lib.hid (show outB n = (decide (n < -2147483647) || decide (2147483647 < n)) from rfl)
  by_cases h1 : n < -2147483647 <;> by_cases h2 : 2147483647 < n
  all_goals try (exfalso; omega)
  all_goals
    have H1 := Lib.hid h1
    have H2 := Lib.hid h2
    go_enter Tryz.func34, Tryz.ntmps34
    go_wp2
    go_ret
    exact ⟨by rw [HR.out]; simp [H1.out, H2.out], rfl⟩

theorem calcI_out {s : List UInt8} {l : List Int} (h : l.any outB = true) : calcI s l = none := by
  unfold calcI
  cases arOf s l.length with
  | none => rfl
  | some o => simp only [applyI, h, if_true]
theorem calcI_long {s : List UInt8} {l : List Int} (h : l.length ≠ 2) (h' : ¬ (s = [45] ∧ l.length = 1)) : calcI s l = none := by
  unfold calcI arOf
  rw [if_neg h', if_neg (fun e => h e.2), if_neg (fun e => h e.2), if_neg (fun e => h e.2), if_neg (fun e => h e.2), if_neg (fun e => h e.2)]
theorem calcI_neg {a : Int} (h : outB a = false) : calcI [45] [a] = some (-a) := by
  have : outB (-a) = false := outB_false.2 (by have := outB_false.1 h; omega)
  simp [calcI, arOf, applyI, Ar.run, h, this]
theorem calcI_add {a b : Int} (ha : outB a = false) (hb : outB b = false) : calcI [43] [a, b] = if outB (a + b) then none else some (a + b) := by simp [calcI, arOf, applyI, Ar.run, ha, hb]
theorem calcI_sub {a b : Int} (ha : outB a = false) (hb : outB b = false) : calcI [45] [a, b] = if outB (a - b) then none else some (a - b) := by simp [calcI, arOf, applyI, Ar.run, ha, hb]
theorem calcI_mul {a b : Int} (ha : outB a = false) (hb : outB b = false) : calcI [42] [a, b] = if outB (a * b) then none else some (a * b) := by simp [calcI, arOf, applyI, Ar.run, ha, hb]
theorem calcI_quo {a b : Int} (ha : outB a = false) (hb : outB b = false) : calcI [47] [a, b] = if b = 0 then none else if outB (a.tdiv b) then none else some (a.tdiv b) := by
  by_cases h : b = 0 <;> simp [calcI, arOf, applyI, Ar.run, ha, hb, h]
theorem calcI_rem {a b : Int} (ha : outB a = false) (hb : outB b = false) : calcI [92] [a, b] = if b = 0 then none else if outB (a.tmod b) then none else some (a.tmod b) := by
  by_cases h : b = 0 <;> simp [calcI, arOf, applyI, Ar.run, ha, hb, h]
theorem calcI_else {s : List UInt8} {a b : Int} (h1 : s ≠ [43]) (h2 : s ≠ [45]) (h3 : s ≠ [42]) (h4 : s ≠ [47]) (h5 : s ≠ [92]) : calcI s [a, b] = none := by
  unfold calcI arOf
  rw [if_neg (fun e => h2 e.1), if_neg (fun e => h1 e.1), if_neg (fun e => h2 e.1), if_neg (fun e => h3 e.1), if_neg (fun e => h4 e.1), if_neg (fun e => h5 e.1)]

theorem below_drewN (w : World) (n : Nat) : Below w.heap.size w (w.drewN n) := ⟨rfl, rfl, rfl, Nat.le_refl _, fun _ _ => rfl⟩
/-- What the reference owes. -/
abbrev RPost (s : ByteArray) (l : List Int) (w : World) (e : Ending) (w' : World) : Prop := e = .returned (optPair (calcI s.toList l)) ∧ Below w.heap.size w w'

set_option maxRecDepth 100000 in
set_option maxHeartbeats 4000000 in
theorem rcalc_two (s : ByteArray) (hs : s.size ≤ maxLen) (a b : Int) (v : Value) (w : World) (hv : IntV w v [a, b]) (ha : outB a = false) (hb : outB b = false) :
    Calls Tryz.prog 11 #[.string s, v] w (RPost s [a, b] w) := by
  obtain ⟨p, off, cap, rfl, _, hp, hI⟩ := intV_cells hv (by simp)
  have g0 : w.cell? ⟨p, off, none⟩ = some (.int .i64 a) := hI 0 (by simp)
  have g1 : w.cell? ⟨p, off + 1, none⟩ = some (.int .i64 b) := hI 1 (by simp)
  obtain ⟨a1, a2⟩ := outB_false.1 ha
  obtain ⟨b1, b2⟩ := outB_false.1 hb
  have HFA := Lib.hid (fun w => fits_any a w)
  have HFB := Lib.hid (fun w => fits_any b w)
  have hw1 : IntKind.i64.wrap (a + b) = a + b := wrap_in (by omega)
  have hw2 : IntKind.i64.wrap (a - b) = a - b := wrap_in (by omega)
  have hw3 : IntKind.i64.wrap (a * b) = a * b := wrap_in (mul_in ha hb)
  have HQ := Lib.hid (wrap_in (tdiv_in ha hb))
  have HA := Lib.hid ha
  have HB := Lib.hid hb
  have HLS := Lib.hid hs
  rw [ha] at HFA
  rw [hb] at HFB
  clear hI hv ha hb hs
  have hm : ∀ t : List UInt8, (s.toList = t ∧ (s.toList == t) = true) ∨ (s.toList ≠ t ∧ (s.toList == t) = false) := fun t => by
    by_cases h : s.toList = t
    · exact Or.inl ⟨h, by rw [h]; simp⟩
    · exact Or.inr ⟨h, by simpa using h⟩
  go_enter Tryz.func11, Tryz.ntmps11
  go_wp2
  go_loop [6] (fun i => ∃ j : Nat, j ≤ 2 ∧ i = .int .i64 j) (fun i => 2 - (intOf i).toNat)
  case atStart => exact ⟨0, by omega, rfl⟩
  case round =>
    obtain ⟨j, hj, rfl⟩ := hrel
    obtain rfl | rfl | rfl : j = 0 ∨ j = 1 ∨ j = 2 := by omega
    · go_wp2_with (go_at_call 34; refine (HFA.out w).mono ?_; rintro e w' ⟨rfl, rfl⟩)
      go_round
      case rel => exact ⟨1, by omega, by go_num⟩
      case measure => simp [intOf]
    · go_wp2_with (go_at_call 34; refine (HFB.out w).mono ?_; rintro e w' ⟨rfl, rfl⟩)
      go_round
      case rel => exact ⟨2, by omega, by go_num⟩
      case measure => simp [intOf]
    · clear HFA HFB
      rcases hm [43] with ⟨e, m43⟩ | ⟨n43, m43⟩
      · clear hm
        have m45 : (s.toList == [45]) = false := by rw [e]; rfl
        have m42 : (s.toList == [42]) = false := by rw [e]; rfl
        have m47 : (s.toList == [47]) = false := by rw [e]; rfl
        have m92 : (s.toList == [92]) = false := by rw [e]; rfl
        have w5 : IntKind.i64.wrap (a + b) = a + b := by assumption
        clear hw1 hw2 hw3
        cases ho : outB (a + b)
        case true =>
          have HF := Lib.hid (fun w => fits_any (a + b) w)
          rw [ho] at HF
          have HC := Lib.hid (show calcI s.toList [a, b] = none by rw [e, calcI_add HA.out HB.out]; simp [ho])
          clear ho e
          go_wp2
          go_quiet (fail)
          go_wp2_with (go_at_call 34; refine (HF.out _).mono ?_; rintro e w' ⟨rfl, rfl⟩)
          go_ret2
          exact ⟨by rw [HC.out]; rfl, below_drewN w _⟩
        case false =>
          have HF := Lib.hid (fun w => fits_any (a + b) w)
          rw [ho] at HF
          have HC := Lib.hid (show calcI s.toList [a, b] = some (a + b) by rw [e, calcI_add HA.out HB.out]; simp [ho])
          clear ho e
          go_wp2
          go_quiet (fail)
          go_wp2_with (go_at_call 34; refine (HF.out _).mono ?_; rintro e w' ⟨rfl, rfl⟩)
          go_ret2
          exact ⟨by rw [HC.out]; rfl, below_drewN w _⟩
      rcases hm [45] with ⟨e, m45⟩ | ⟨n45, m45⟩
      · clear hm
        have m43 : (s.toList == [43]) = false := by rw [e]; rfl
        have m42 : (s.toList == [42]) = false := by rw [e]; rfl
        have m47 : (s.toList == [47]) = false := by rw [e]; rfl
        have m92 : (s.toList == [92]) = false := by rw [e]; rfl
        have w5 : IntKind.i64.wrap (a - b) = a - b := by assumption
        clear hw1 hw2 hw3
        cases ho : outB (a - b)
        case true =>
          have HF := Lib.hid (fun w => fits_any (a - b) w)
          rw [ho] at HF
          have HC := Lib.hid (show calcI s.toList [a, b] = none by rw [e, calcI_sub HA.out HB.out]; simp [ho])
          clear ho e
          go_wp2
          go_quiet (fail)
          go_wp2_with (go_at_call 34; refine (HF.out _).mono ?_; rintro e w' ⟨rfl, rfl⟩)
          go_ret2
          exact ⟨by rw [HC.out]; rfl, below_drewN w _⟩
        case false =>
          have HF := Lib.hid (fun w => fits_any (a - b) w)
          rw [ho] at HF
          have HC := Lib.hid (show calcI s.toList [a, b] = some (a - b) by rw [e, calcI_sub HA.out HB.out]; simp [ho])
          clear ho e
          go_wp2
          go_quiet (fail)
          go_wp2_with (go_at_call 34; refine (HF.out _).mono ?_; rintro e w' ⟨rfl, rfl⟩)
          go_ret2
          exact ⟨by rw [HC.out]; rfl, below_drewN w _⟩
      rcases hm [42] with ⟨e, m42⟩ | ⟨n42, m42⟩
      · clear hm
        have m43 : (s.toList == [43]) = false := by rw [e]; rfl
        have m45 : (s.toList == [45]) = false := by rw [e]; rfl
        have m47 : (s.toList == [47]) = false := by rw [e]; rfl
        have m92 : (s.toList == [92]) = false := by rw [e]; rfl
        have w5 : IntKind.i64.wrap (a * b) = a * b := by assumption
        clear hw1 hw2 hw3
        cases ho : outB (a * b)
        case true =>
          have HF := Lib.hid (fun w => fits_any (a * b) w)
          rw [ho] at HF
          have HC := Lib.hid (show calcI s.toList [a, b] = none by rw [e, calcI_mul HA.out HB.out]; simp [ho])
          clear ho e
          go_wp2
          go_quiet (fail)
          go_wp2_with (go_at_call 34; refine (HF.out _).mono ?_; rintro e w' ⟨rfl, rfl⟩)
          go_ret2
          exact ⟨by rw [HC.out]; rfl, below_drewN w _⟩
        case false =>
          have HF := Lib.hid (fun w => fits_any (a * b) w)
          rw [ho] at HF
          have HC := Lib.hid (show calcI s.toList [a, b] = some (a * b) by rw [e, calcI_mul HA.out HB.out]; simp [ho])
          clear ho e
          go_wp2
          go_quiet (fail)
          go_wp2_with (go_at_call 34; refine (HF.out _).mono ?_; rintro e w' ⟨rfl, rfl⟩)
          go_ret2
          exact ⟨by rw [HC.out]; rfl, below_drewN w _⟩
      rcases hm [47] with ⟨e, m47⟩ | ⟨n47, m47⟩
      · clear hm
        have m43 : (s.toList == [43]) = false := by rw [e]; rfl
        have m45 : (s.toList == [45]) = false := by rw [e]; rfl
        have m42 : (s.toList == [42]) = false := by rw [e]; rfl
        have m92 : (s.toList == [92]) = false := by rw [e]; rfl
        by_cases h0 : b = 0
        · have HC := Lib.hid (show calcI s.toList [a, b] = none by rw [e, calcI_quo HA.out HB.out, if_pos h0])
          subst h0
          clear hw1 hw2 hw3 e
          go_wp2
          go_ret2
          exact ⟨by rw [HC.out]; rfl, Below.refl _ w⟩
        · clear hw1 hw2 hw3
          have w5 := HQ.out
          cases ho : outB (a.tdiv b)
          case true =>
            have HF := Lib.hid (fun w => fits_any (a.tdiv b) w)
            rw [ho] at HF
            have HC := Lib.hid (show calcI s.toList [a, b] = none by rw [e, calcI_quo HA.out HB.out, if_neg h0]; simp [ho])
            clear ho e
            go_wp2
            go_quiet (fail)
            go_wp2_with (go_at_call 34; refine (HF.out _).mono ?_; rintro e w' ⟨rfl, rfl⟩)
            go_ret2
            exact ⟨by rw [HC.out]; rfl, below_drewN w _⟩
          case false =>
            have HF := Lib.hid (fun w => fits_any (a.tdiv b) w)
            rw [ho] at HF
            have HC := Lib.hid (show calcI s.toList [a, b] = some (a.tdiv b) by rw [e, calcI_quo HA.out HB.out, if_neg h0]; simp [ho])
            clear ho e
            go_wp2
            go_quiet (fail)
            go_wp2_with (go_at_call 34; refine (HF.out _).mono ?_; rintro e w' ⟨rfl, rfl⟩)
            go_ret2
            exact ⟨by rw [HC.out]; rfl, below_drewN w _⟩
      rcases hm [92] with ⟨e, m92⟩ | ⟨n92, m92⟩
      · clear hm
        have m43 : (s.toList == [43]) = false := by rw [e]; rfl
        have m45 : (s.toList == [45]) = false := by rw [e]; rfl
        have m42 : (s.toList == [42]) = false := by rw [e]; rfl
        have m47 : (s.toList == [47]) = false := by rw [e]; rfl
        by_cases h0 : b = 0
        · have HC := Lib.hid (show calcI s.toList [a, b] = none by rw [e, calcI_rem HA.out HB.out, if_pos h0])
          subst h0
          clear hw1 hw2 hw3 e
          go_wp2
          go_ret2
          exact ⟨by rw [HC.out]; rfl, Below.refl _ w⟩
        · clear hw1 hw2 hw3
          obtain ⟨w5, w6⟩ : IntKind.i64.wrap (a.tdiv b * b) = a.tdiv b * b ∧ IntKind.i64.wrap (a - a.tdiv b * b) = a.tmod b := by
            obtain ⟨o1, o2, o3, _⟩ := rem_parts HA.out HB.out h0
            have o1 := outB_false.1 o1
            have o2 := outB_false.1 o2
            rw [wrap_in (by omega), wrap_in (by omega)]
            exact ⟨rfl, by omega⟩
          have w7 := HQ.out
          cases ho : outB (a.tmod b)
          case true =>
            have HF := Lib.hid (fun w => fits_any (a.tmod b) w)
            rw [ho] at HF
            have HC := Lib.hid (show calcI s.toList [a, b] = none by rw [e, calcI_rem HA.out HB.out, if_neg h0]; simp [ho])
            clear ho e
            go_wp2
            go_quiet (fail)
            go_wp2_with (go_at_call 34; refine (HF.out _).mono ?_; rintro e w' ⟨rfl, rfl⟩)
            go_ret2
            exact ⟨by rw [HC.out]; rfl, below_drewN w _⟩
          case false =>
            have HF := Lib.hid (fun w => fits_any (a.tmod b) w)
            rw [ho] at HF
            have HC := Lib.hid (show calcI s.toList [a, b] = some (a.tmod b) by rw [e, calcI_rem HA.out HB.out, if_neg h0]; simp [ho])
            clear ho e
            go_wp2
            go_quiet (fail)
            go_wp2_with (go_at_call 34; refine (HF.out _).mono ?_; rintro e w' ⟨rfl, rfl⟩)
            go_ret2
            exact ⟨by rw [HC.out]; rfl, below_drewN w _⟩
      have HC := Lib.hid (show calcI s.toList [a, b] = none from calcI_else n43 n45 n42 n47 n92)
      clear hm n43 n45 n42 n47 n92 hw1 hw2 hw3
      go_wp2
      go_ret2
      exact ⟨by rw [HC.out]; rfl, Below.refl _ w⟩

set_option maxRecDepth 100000 in
set_option maxHeartbeats 2000000 in
/-- A number that is out of range: nothing is calculated. -/
theorem rcalc_out (s : ByteArray) (l : List Int) (v : Value) (w : World) (hv : IntV w v l) (ho : l.any outB = true) :
    Calls Tryz.prog 11 #[.string s, v] w (RPost s l w) := by
  have HC := Lib.hid (calcI_out (s := s.toList) ho)
  have HO := Lib.hid ho
  obtain ⟨a, cap, rfl, hl, hr⟩ := hv
  unfold maxLen at hl
  have HR := Lib.hid hr; clear hr ho
  go_enter Tryz.func11, Tryz.ntmps11
  go_wp2
  go_loop [6] (fun i => ∃ j : Nat, j ≤ l.length ∧ i = .int .i64 j ∧ (l.take j).any outB = false) (fun i => l.length - (intOf i).toNat)
  case atStart => exact ⟨0, by omega, by go_num, rfl⟩
  case round =>
    obtain ⟨j, hj, rfl, hf⟩ := hrel
    have HF := Lib.hid hf; clear hf
    by_cases hlt : j < l.length
    · obtain ⟨b, off, rfl, hb, hI⟩ := HR.out (by intro e; rw [e] at hlt; simp at hlt)
      have g0 := hI j hlt
      have HN := Lib.hid (List.take_succ_eq_append_getElem hlt)
      clear hI
      have i1 : (0 : Int) ≤ (j : Int) := by omega
      have i2 : (j : Int) < (l.length : Int) := by omega
      cases ho : outB l[j]
      · have HP := Lib.hid (show (l.take (j + 1)).any outB = false by rw [HN.out, List.any_append, HF.out]; simp [ho])
        have HT := Lib.hid (fits_any l[j] w)
        rw [ho] at HT
        clear ho
        go_wp2_with (go_at_call 34; refine HT.out.mono ?_; rintro e w' ⟨rfl, rfl⟩)
        go_round
        case rel => exact ⟨j + 1, by omega, by go_num, HP.out⟩
        case measure => simp [intOf]; omega
      · have HT := Lib.hid (fits_any l[j] w)
        rw [ho] at HT
        clear ho
        go_wp2_with (go_at_call 34; refine HT.out.mono ?_; rintro e w' ⟨rfl, rfl⟩)
        go_ret2
        exact ⟨by rw [HC.out]; rfl, Below.refl _ w⟩
    · exfalso
      have h1 := HF.out
      rw [List.take_of_length_le (by omega), HO.out] at h1
      cases h1

set_option maxRecDepth 100000 in
set_option maxHeartbeats 2000000 in
/-- Neither one nor two numbers, or one and another sign. -/
theorem rcalc_long (s : ByteArray) (_ : s.size ≤ maxLen) (l : List Int) (v : Value) (w : World) (hv : IntV w v l) (ho : l.any outB = false) (h2 : l.length ≠ 2) (h1 : ¬ (s.toList = [45] ∧ l.length = 1)) :
    Calls Tryz.prog 11 #[.string s, v] w (RPost s l w) := by
  have HC := Lib.hid (calcI_long h2 h1)
  obtain ⟨a, cap, rfl, hl, hr⟩ := hv
  unfold maxLen at hl
  have HR := Lib.hid hr; clear hr
  have HO := Lib.hid (fun (j : Nat) (h : j < l.length) => List.any_eq_false.1 ho l[j] (List.getElem_mem h))
  have HH := Lib.hid h1
  clear ho h1
  go_enter Tryz.func11, Tryz.ntmps11
  go_wp2
  go_loop [6] (fun i => ∃ j : Nat, j ≤ l.length ∧ i = .int .i64 j) (fun i => l.length - (intOf i).toNat)
  case atStart => exact ⟨0, by omega, by go_num⟩
  case round =>
    obtain ⟨j, hj, rfl⟩ := hrel
    by_cases hlt : j < l.length
    · obtain ⟨b, off, rfl, hb, hI⟩ := HR.out (by intro e; rw [e] at hlt; simp at hlt)
      have g0 := hI j hlt
      clear hI
      have i1 : (0 : Int) ≤ (j : Int) := by omega
      have i2 : (j : Int) < (l.length : Int) := by omega
      have HT := Lib.hid (fits_any l[j] w)
      have h3 : outB l[j] = false := by simpa using HO.out j hlt
      rw [h3] at HT
      clear h3
      go_wp2_with (go_at_call 34; refine HT.out.mono ?_; rintro e w' ⟨rfl, rfl⟩)
      go_round
      case rel => exact ⟨j + 1, by omega, by go_num⟩
      case measure => simp [intOf]; omega
    · have hne : ((l.length : Int) == 2) = false := by
        have : (l.length : Int) ≠ 2 := by omega
        simpa using this
      have hn2 : ¬ (l.length : Int) = 2 := by omega
      by_cases hm : s.toList = [45]
      · have hx : (s.toList == [45]) = true := by rw [hm]; rfl
        have h4 : ¬ (l.length : Int) = 1 := fun e => HH.out ⟨hm, by omega⟩
        have h5 : ((l.length : Int) == 1) = false := by simpa using h4
        clear hm
        go_wp2
        go_ret2
        exact ⟨by rw [HC.out]; rfl, Below.refl _ w⟩
      · have hx : (s.toList == [45]) = false := by simpa using hm
        clear hm
        go_wp2
        go_ret2
        exact ⟨by rw [HC.out]; rfl, Below.refl _ w⟩

set_option maxRecDepth 100000 in
set_option maxHeartbeats 2000000 in
theorem rcalc_neg (s : ByteArray) (he : s.toList = [45]) (a : Int) (v : Value) (w : World) (hv : IntV w v [a]) (ha : outB a = false) :
    Calls Tryz.prog 11 #[.string s, v] w (RPost s [a] w) := by
  obtain ⟨p, off, cap, rfl, _, hp, hI⟩ := intV_cells hv (by simp)
  have g0 : w.cell? ⟨p, off, none⟩ = some (.int .i64 a) := hI 0 (by simp)
  have hab := outB_false.1 ha
  have hw : IntKind.i64.wrap (-a) = -a := wrap_in (by omega)
  have hx : (s.toList == [45]) = true := by rw [he]; rfl
  have HC := Lib.hid (show calcI s.toList [a] = some (-a) by rw [he]; exact calcI_neg ha)
  have HT := Lib.hid (fits_any a w)
  rw [ha] at HT
  clear hI hv ha he hab
  go_enter Tryz.func11, Tryz.ntmps11
  go_wp2
  go_loop [6] (fun i => ∃ j : Nat, j ≤ 1 ∧ i = .int .i64 j) (fun i => 1 - (intOf i).toNat)
  case atStart => exact ⟨0, by omega, rfl⟩
  case round =>
    obtain ⟨j, hj, rfl⟩ := hrel
    obtain rfl | rfl : j = 0 ∨ j = 1 := by omega
    · go_wp2_with (go_at_call 34; refine HT.out.mono ?_; rintro e w' ⟨rfl, rfl⟩)
      go_round
      case rel => exact ⟨1, by omega, by go_num⟩
      case measure => simp [intOf]
    · go_wp2
      go_ret2
      exact ⟨by rw [HC.out]; rfl, Below.refl _ w⟩

/-- The reference's Calc is the program's. -/
theorem rcalc_any (s : ByteArray) (hs : s.size ≤ maxLen) (l : List Int) (v : Value) (w : World) (hv : IntV w v l) : Calls Tryz.prog 11 #[.string s, v] w (RPost s l w) := by
  cases ho : l.any outB with
  | true => exact rcalc_out s l v w hv ho
  | false =>
    by_cases h2 : l.length = 2
    · match l, h2 with
      | [a, b], _ =>
        simp only [List.any_cons, List.any_nil, Bool.or_false, Bool.or_eq_false_iff] at ho
        exact rcalc_two s hs a b v w hv ho.1 ho.2
    · by_cases h1 : s.toList = [45] ∧ l.length = 1
      · match l, h1.2 with
        | [a], _ =>
          simp only [List.any_cons, List.any_nil, Bool.or_false] at ho
          exact rcalc_neg s h1.1 a v w hv ho
      · exact rcalc_long s hs l v w hv ho h2 h1
end Go.Proofs.YteaiocdopjekhaaGreatDoor
