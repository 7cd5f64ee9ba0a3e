/- Package term, names: Symbol and Variable. -/
import Derived.Test.YtnobmffgchlijaaGreatDoorNm
import Derived.Test.YtnobmffgchlijaaGreatDoorShelf
namespace Go.Proofs.YtnobmffgchlijaaGreatDoor
open Go.RowKit

def namedL (st : Int → Bool) : List UInt8 → Bool
  | [] => false
  | c :: r => st c.toNat && allB wordB ⟨(c :: r).toArray⟩
def namedB (st : Int → Bool) (s : ByteArray) : Bool := namedL st (Lib.trimLeftB s.data.toList 95)

theorem trim_size (s : ByteArray) : (Lib.trimLeftB s.data.toList 95).length ≤ s.size := by
  unfold Lib.trimLeftB
  have := List.Sublist.length_le (List.dropWhile_sublist (fun b : UInt8 => b == 95) (l := s.data.toList))
  simpa using this

set_option maxHeartbeats 400000 in
theorem named_lower (s : ByteArray) (w : World) (hs : s.size ≤ maxLen) :
    Calls Tryz.prog 73 #[.string s, .func (.func 74) #[] #[]] w fun e w' => e = .returned (.bool (namedB lowerB s)) ∧ w = w' := by
  have hl := trim_size s
  have hd : namedB lowerB s = namedL lowerB (Lib.trimLeftB s.data.toList 95) := rfl
  have HD := Lib.hid hd; clear hd
  go_enter Tryz.func73, Tryz.ntmps73
  go_wp2_with (go_at_call 86; refine (Tryz.strings_TrimLeft_one _ 95 (by decide) _).mono ?_)
  rintro e w' ⟨rfl, rfl⟩
  revert HD hl
  generalize Lib.trimLeftB s.data.toList 95 = l
  intro hl HD
  cases l with
  | nil =>
    go_wp2_with fail
    go_ret
    exact ⟨by rw [HD.out]; rfl, rfl⟩
  | cons c r =>
    have hsz : (ByteArray.mk (c :: r).toArray).size ≤ maxLen := by
      show (c :: r).toArray.size ≤ maxLen
      simp at hl ⊢; omega
    have HS := Lib.hid hsz; clear hsz
    cases hc : lowerB c.toNat
    · have HC := Lib.hid hc
      have hc2 : lowerB ((ByteArray.mk (c :: r).toArray)[0]'(by show 0 < (c :: r).toArray.size; simp)).toNat = false := hc
      clear hc
      go_wp2_with (go_at_call 74; refine (lower_any _ _).mono ?_; rintro e w'' ⟨rfl, rfl⟩)
      go_ret
      exact ⟨by rw [HD.out]; simp only [namedL, HC.out, Bool.false_and]; rfl, rfl⟩
    · have HC := Lib.hid hc
      have hc2 : lowerB ((ByteArray.mk (c :: r).toArray)[0]'(by show 0 < (c :: r).toArray.size; simp)).toNat = true := hc
      clear hc
      go_wp2_with (first | (go_at_call 74; refine (lower_any _ _).mono ?_; rintro e w'' ⟨rfl, rfl⟩) | (go_at_call 87; refine (all_word _ _ HS.out).mono ?_; rintro e w'' ⟨rfl, rfl⟩))
      go_ret
      exact ⟨by rw [HD.out]; simp only [namedL, HC.out, Bool.true_and]; rfl, rfl⟩

set_option maxHeartbeats 400000 in
theorem named_upper (s : ByteArray) (w : World) (hs : s.size ≤ maxLen) :
    Calls Tryz.prog 73 #[.string s, .func (.func 75) #[] #[]] w fun e w' => e = .returned (.bool (namedB upperB s)) ∧ w = w' := by
  have hl := trim_size s
  have hd : namedB upperB s = namedL upperB (Lib.trimLeftB s.data.toList 95) := rfl
  have HD := Lib.hid hd; clear hd
  go_enter Tryz.func73, Tryz.ntmps73
  go_wp2_with (go_at_call 86; refine (Tryz.strings_TrimLeft_one _ 95 (by decide) _).mono ?_)
  rintro e w' ⟨rfl, rfl⟩
  revert HD hl
  generalize Lib.trimLeftB s.data.toList 95 = l
  intro hl HD
  cases l with
  | nil =>
    go_wp2_with fail
    go_ret
    exact ⟨by rw [HD.out]; rfl, rfl⟩
  | cons c r =>
    have hsz : (ByteArray.mk (c :: r).toArray).size ≤ maxLen := by
      show (c :: r).toArray.size ≤ maxLen
      simp at hl ⊢; omega
    have HS := Lib.hid hsz; clear hsz
    cases hc : upperB c.toNat
    · have HC := Lib.hid hc
      have hc2 : upperB ((ByteArray.mk (c :: r).toArray)[0]'(by show 0 < (c :: r).toArray.size; simp)).toNat = false := hc
      clear hc
      go_wp2_with (go_at_call 75; refine (upper_any _ _).mono ?_; rintro e w'' ⟨rfl, rfl⟩)
      go_ret
      exact ⟨by rw [HD.out]; simp only [namedL, HC.out, Bool.false_and]; rfl, rfl⟩
    · have HC := Lib.hid hc
      have hc2 : upperB ((ByteArray.mk (c :: r).toArray)[0]'(by show 0 < (c :: r).toArray.size; simp)).toNat = true := hc
      clear hc
      go_wp2_with (first | (go_at_call 75; refine (upper_any _ _).mono ?_; rintro e w'' ⟨rfl, rfl⟩) | (go_at_call 87; refine (all_word _ _ HS.out).mono ?_; rintro e w'' ⟨rfl, rfl⟩))
      go_ret
      exact ⟨by rw [HD.out]; simp only [namedL, HC.out, Bool.true_and]; rfl, rfl⟩

def symbolB (s : ByteArray) : Bool := decide (s.size ≤ 32) && !(s.toList == [110, 111, 116]) && namedB lowerB s
def variableB (s : ByteArray) : Bool := decide (s.size ≤ 32) && (namedB upperB s || (Lib.hasPrefix s.data.toList [95] && allB digitB ⟨(Lib.trimPrefix s.data.toList [95]).toArray⟩))

set_option maxHeartbeats 400000 in
theorem anonymous_any (s : ByteArray) (w : World) (hs : s.size ≤ maxLen) :
    Calls Tryz.prog 76 #[.string s] w fun e w' => e = .returned (.bool (Lib.hasPrefix s.data.toList [95] && allB digitB ⟨(Lib.trimPrefix s.data.toList [95]).toArray⟩)) ∧ w = w' := by
  have hl : (ByteArray.mk (Lib.trimPrefix s.data.toList [95]).toArray).size ≤ maxLen := by
    show (Lib.trimPrefix s.data.toList [95]).toArray.size ≤ maxLen
    have h1 : (Lib.trimPrefix s.data.toList [95]).length ≤ s.size := by
      unfold Lib.trimPrefix; split <;> simp
    simp; omega
  have HL := Lib.hid hl; clear hl
  cases hp : Lib.hasPrefix s.data.toList [95]
  · go_enter Tryz.func76, Tryz.ntmps76
    go_wp2_with (go_at_call 89; refine (Tryz.strings_CutPrefix _ _ _).mono ?_; rintro e w' ⟨rfl, rfl⟩)
    go_ret
    exact ⟨by simp, rfl⟩
  · go_enter Tryz.func76, Tryz.ntmps76
    go_wp2_with (first | (go_at_call 89; refine (Tryz.strings_CutPrefix _ _ _).mono ?_; rintro e w' ⟨rfl, rfl⟩) | (go_at_call 87; refine (all_digit _ _ HL.out).mono ?_; rintro e w'' ⟨rfl, rfl⟩))
    go_ret
    exact ⟨by simp, rfl⟩

set_option maxHeartbeats 400000 in
theorem symbol_any (s : ByteArray) (w : World) (hs : s.size ≤ maxLen) :
    Calls Tryz.prog 57 #[.string s] w fun e w' => e = .returned (.bool (symbolB s)) ∧ w = w' := by
  have hd : symbolB s = (decide (s.size ≤ 32) && !(s.toList == [110, 111, 116]) && namedB lowerB s) := rfl
  have HD := Lib.hid hd; clear hd
  by_cases h1 : s.size ≤ 32 <;> cases h2 : (s.toList == [110, 111, 116])
  all_goals
    have H1 := Lib.hid h1
    have H2 := Lib.hid h2
    go_enter Tryz.func57, Tryz.ntmps57
    go_wp2_with (go_at_call 73; refine (named_lower _ _ hs).mono ?_; rintro e w' ⟨rfl, rfl⟩)
    go_ret
    exact ⟨by rw [HD.out, H2.out]; simp [H1.out], rfl⟩

set_option maxHeartbeats 400000 in
theorem variable_any (s : ByteArray) (w : World) (hs : s.size ≤ maxLen) :
    Calls Tryz.prog 59 #[.string s] w fun e w' => e = .returned (.bool (variableB s)) ∧ w = w' := by
  have hd : variableB s = (decide (s.size ≤ 32) && (namedB upperB s || (Lib.hasPrefix s.data.toList [95] && allB digitB ⟨(Lib.trimPrefix s.data.toList [95]).toArray⟩))) := rfl
  have HD := Lib.hid hd; clear hd
  by_cases h1 : s.size ≤ 32 <;> cases h2 : namedB upperB s
  all_goals
    have H1 := Lib.hid h1
    have H2 := Lib.hid h2
    go_enter Tryz.func59, Tryz.ntmps59
    go_wp2_with (first | (go_at_call 73; refine (named_upper _ _ hs).mono ?_; rintro e w' ⟨rfl, rfl⟩) | (go_at_call 76; refine (anonymous_any _ _ hs).mono ?_; rintro e w' ⟨rfl, rfl⟩))
    go_ret
    exact ⟨by rw [HD.out, H2.out]; simp [H1.out], rfl⟩

end Go.Proofs.YtnobmffgchlijaaGreatDoor
