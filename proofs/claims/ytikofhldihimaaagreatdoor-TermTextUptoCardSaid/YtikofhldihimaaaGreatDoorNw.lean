/- Names and numerals as lists of bytes: plain mathematics for the texts of terms. -/
import Derived.Test.YtikofhldihimaaaGreatDoorSy
import Derived.Test.YtikofhldihimaaaGreatDoorSt
import Derived.Lib.ItoaLen
namespace Go.Proofs.YtikofhldihimaaaGreatDoor
open Go.RowKit

def undN (l : List UInt8) : Nat := (l.takeWhile (· == 95)).length
def anonB (s : ByteArray) : Bool := Lib.hasPrefix s.data.toList [95] && allB digitB ⟨(Lib.trimPrefix s.data.toList [95]).toArray⟩
theorem anon_eq (s : ByteArray) : anonB s = (decide (1 ≤ undN s.data.toList) && (s.data.toList.drop 1).all fun b => digitB b.toNat) := by
  unfold anonB
  generalize s.data.toList = l
  cases l with
  | nil => rfl
  | cons c r =>
    by_cases h : c = 95
    · subst h
      simp [Lib.hasPrefix, Lib.trimPrefix, allB, undN, List.isPrefixOf]
    · have h1 : (c == 95) = false := by simpa using h
      have h2 : ((95 : UInt8) == c) = false := by rw [beq_eq_false_iff_ne]; exact fun e => h e.symm
      simp [Lib.hasPrefix, undN, List.isPrefixOf, h1, h2]
def wrd (c : UInt8) : Bool := wordB c.toNat
def dig (c : UInt8) : Bool := digitB c.toNat
/-- A list of bytes of words that doesn't begin with a digit. -/
def NameL (l : List UInt8) : Prop := (∃ c r, l = c :: r ∧ dig c = false) ∧ ∀ c ∈ l, wrd c = true
theorem low_nodig (c : Int) (h : lowerB c = true) : digitB c = false := by
  unfold lowerB digitB at *
  simp only [Bool.and_eq_true, decide_eq_true_eq] at h
  rw [Bool.and_eq_false_iff, decide_eq_false_iff_not, decide_eq_false_iff_not]; omega
theorem up_nodig (c : Int) (h : upperB c = true) : digitB c = false := by
  unfold upperB digitB at *
  simp only [Bool.and_eq_true, decide_eq_true_eq] at h
  rw [Bool.and_eq_false_iff, decide_eq_false_iff_not, decide_eq_false_iff_not]; omega
theorem dig_wrd (c : UInt8) (h : dig c = true) : wrd c = true := by
  unfold dig at h; unfold wrd wordB; rw [h]; simp
theorem tw_mem {p : UInt8 → Bool} : ∀ (l : List UInt8) (c : UInt8), c ∈ l.takeWhile p → p c = true
  | [], c, h => by simp at h
  | x :: r, c, h => by
    rw [List.takeWhile_cons] at h
    split at h
    · rename_i hx
      rcases List.mem_cons.1 h with rfl | h1
      · exact hx
      · exact tw_mem r c h1
    · simp at h
theorem nameL_named {st : Int → Bool} (hst : ∀ c, st c = true → digitB c = false) {s : ByteArray} (h : namedB st s = true) : NameL s.data.toList := by
  unfold namedB Lib.trimLeftB at h
  have hsp := List.takeWhile_append_dropWhile (p := (· == (95 : UInt8))) (l := s.data.toList)
  have htw : ∀ c ∈ s.data.toList.takeWhile (· == (95 : UInt8)), c = 95 := fun c hc => by
    have := tw_mem _ _ hc
    simpa using this
  generalize s.data.toList = l at *
  generalize l.takeWhile (· == (95 : UInt8)) = a at *
  cases hd : l.dropWhile (· == (95 : UInt8)) with
  | nil => rw [hd] at h; simp [namedL] at h
  | cons c r =>
    rw [hd] at h hsp
    simp only [namedL, Bool.and_eq_true] at h
    obtain ⟨h1, h2⟩ := h
    unfold allB at h2
    have h2' : ∀ x ∈ c :: r, wordB x.toNat = true := fun x hx => List.all_eq_true.1 h2 x hx
    refine ⟨?_, fun x hx => ?_⟩
    · cases a with
      | nil => exact ⟨c, r, by rw [← hsp]; rfl, hst _ h1⟩
      | cons y z =>
        have := htw y (List.mem_cons_self ..)
        subst this
        exact ⟨95, z ++ c :: r, by rw [← hsp]; rfl, by decide +kernel⟩
    · rw [← hsp] at hx
      rcases List.mem_append.1 hx with h3 | h3
      · rw [htw x h3]; decide +kernel
      · exact h2' x h3
theorem nameL_anon {s : ByteArray} (h : anonB s = true) : NameL s.data.toList := by
  rw [anon_eq, Bool.and_eq_true] at h
  obtain ⟨h1, h2⟩ := h
  have h1' := of_decide_eq_true h1
  generalize s.data.toList = l at *
  cases l with
  | nil => simp [undN] at h1'
  | cons c r =>
    have hc : c = 95 := by
      apply Decidable.byContradiction; intro hn
      have : undN (c :: r) = 0 := by unfold undN; rw [List.takeWhile_cons, if_neg (by simpa using hn)]; rfl
      omega
    subst hc
    refine ⟨⟨95, r, rfl, by decide +kernel⟩, fun x hx => ?_⟩
    rcases List.mem_cons.1 hx with h3 | h3
    · rw [h3]; decide +kernel
    · exact dig_wrd _ (List.all_eq_true.1 h2 x h3)
theorem nameL_symbol {s : ByteArray} (h : symbolB s = true) : NameL s.data.toList := by
  unfold symbolB at h
  rw [Bool.and_eq_true] at h
  exact nameL_named low_nodig h.2
theorem nameL_variable {s : ByteArray} (h : variableB s = true) : NameL s.data.toList := by
  unfold variableB at h
  rw [Bool.and_eq_true, Bool.or_eq_true] at h
  rcases h.2 with h2 | h2
  · exact nameL_named up_nodig h2
  · exact nameL_anon h2
theorem variable_nosymbol {s : ByteArray} (hv : variableB s = true) : symbolB s = false := by
  rw [Bool.eq_false_iff]
  intro h
  unfold symbolB at h
  unfold variableB at hv
  rw [Bool.and_eq_true] at h
  rw [Bool.and_eq_true, Bool.or_eq_true] at hv
  have hn := h.2
  rcases hv.2 with h2 | h2
  · unfold namedB at hn h2
    generalize Lib.trimLeftB s.data.toList 95 = l at hn h2
    cases l with
    | nil => simp [namedL] at hn
    | cons c r =>
      simp only [namedL, Bool.and_eq_true] at hn h2
      have h3 := hn.1
      have h4 := h2.1
      unfold lowerB at h3
      unfold upperB at h4
      simp only [Bool.and_eq_true, decide_eq_true_eq] at h3 h4
      omega
  · have ha : anonB s = true := h2
    rw [anon_eq, Bool.and_eq_true] at ha
    have h1' := of_decide_eq_true ha.1
    have h2' := ha.2
    unfold namedB Lib.trimLeftB at hn
    generalize s.data.toList = l at *
    cases l with
    | nil => simp [undN] at h1'
    | cons c r =>
      have hc : c = 95 := by
        apply Decidable.byContradiction; intro hne
        have : undN (c :: r) = 0 := by unfold undN; rw [List.takeWhile_cons, if_neg (by simpa using hne)]; rfl
        omega
      subst hc
      rw [List.dropWhile_cons, if_pos (by rfl)] at hn
      cases hd : r.dropWhile (· == (95 : UInt8)) with
      | nil => rw [hd] at hn; simp [namedL] at hn
      | cons d q =>
        rw [hd] at hn
        simp only [namedL, Bool.and_eq_true] at hn
        have hm : d ∈ r := (List.dropWhile_sublist (· == (95 : UInt8))).subset (by rw [hd]; exact List.mem_cons_self ..)
        have h3 := low_nodig _ hn.1
        have h4 := List.all_eq_true.1 h2' d hm
        rw [h3] at h4; cases h4

/-! ### Numerals -/
def dval (l : List UInt8) : Nat := l.foldl (fun a c => a * 10 + (c.toNat - 48)) 0
theorem digit_of {d : Nat} (h : d < 10) : (UInt8.ofNat (48 + d)).toNat = 48 + d := by
  rw [UInt8.toNat_ofNat']; exact Nat.mod_eq_of_lt (by omega)
theorem dec_dig (u : Nat) : ∀ c ∈ Lib.decDigits u, dig c = true := by
  have hd : ∀ d, d < 10 → dig (UInt8.ofNat (48 + d)) = true := fun d h => by
    unfold dig digitB
    rw [digit_of h]
    simp only [Bool.and_eq_true, decide_eq_true_eq]; omega
  induction u using Nat.strongRecOn with
  | _ u ih =>
    intro c hc
    rw [Lib.decDigits] at hc
    split at hc
    · rename_i h
      have : c = UInt8.ofNat (48 + u) := by simpa using hc
      rw [this]; exact hd u h
    · rcases List.mem_append.1 hc with h1 | h1
      · exact ih (u / 10) (by omega) c h1
      · have : c = UInt8.ofNat (48 + u % 10) := by simpa using h1
        rw [this]; exact hd _ (Nat.mod_lt _ (by omega))
theorem dec_dval (u : Nat) : dval (Lib.decDigits u) = u := by
  induction u using Nat.strongRecOn with
  | _ u ih =>
    rw [Lib.decDigits]
    split
    · rename_i h
      unfold dval
      rw [List.foldl_cons, List.foldl_nil, digit_of h]; omega
    · have h := ih (u / 10) (by omega)
      unfold dval at h ⊢
      rw [List.foldl_append, h, List.foldl_cons, List.foldl_nil, digit_of (Nat.mod_lt _ (by omega))]
      omega
theorem dec_nonempty (u : Nat) : ∃ c r, Lib.decDigits u = c :: r := by
  cases h : Lib.decDigits u with
  | nil =>
    have h1 := congrArg List.length h
    rw [Lib.decDigits_length, List.length_nil] at h1
    have h2 := Lib.nDigits_pos u
    omega
  | cons c r => exact ⟨c, r, rfl⟩

/-! ### A run of bytes and what follows -/
theorem run_stop {p : UInt8 → Bool} {l rest : List UInt8} (h : ∀ c ∈ l, p c = true) (hr : rest = [] ∨ ∃ c r, rest = c :: r ∧ p c = false) :
    (l ++ rest).takeWhile p = l ∧ (l ++ rest).dropWhile p = rest := by
  induction l with
  | nil =>
    rcases hr with rfl | ⟨c, r, rfl, hc⟩
    · exact ⟨rfl, rfl⟩
    · rw [List.nil_append, List.takeWhile_cons, List.dropWhile_cons, if_neg (by rw [hc]; simp), if_neg (by rw [hc]; simp)]
      exact ⟨rfl, rfl⟩
  | cons x r ih =>
    have hx := h x (List.mem_cons_self ..)
    obtain ⟨h1, h2⟩ := ih (fun c hc => h c (List.mem_cons_of_mem _ hc))
    rw [List.cons_append, List.takeWhile_cons, List.dropWhile_cons, if_pos hx, if_pos hx, h1, h2]
    exact ⟨rfl, rfl⟩
end Go.Proofs.YtikofhldihimaaaGreatDoor
