/- Package term, names: the classes of bytes; all. -/
import Derived.Test.YtnobmffgchlijaaGreatDoorProg
import Derived.Test.YtnobmffgchlijaaGreatDoorTm
import Derived.WalkKit
import Derived.WalkSpells
import Derived.WalkLawsBesides
namespace Go.Proofs.YtnobmffgchlijaaGreatDoor
open Go.RowKit

def lowerB (c : Int) : Bool := decide (97 ≤ c) && decide (c ≤ 122)
def upperB (c : Int) : Bool := decide (65 ≤ c) && decide (c ≤ 90)
def digitB (c : Int) : Bool := decide (48 ≤ c) && decide (c ≤ 57)
def wordB (c : Int) : Bool := lowerB c || upperB c || digitB c || decide (c = 95)

set_option maxHeartbeats 400000 in
theorem lower_any (c : Int) (w : World) :
    Calls Tryz.prog 74 #[.int .u8 c] w fun e w' => e = .returned (.bool (lowerB c)) ∧ w = w' := by
  by_cases h1 : 97 ≤ c <;> by_cases h2 : c ≤ 122
  all_goals
    go_enter Tryz.func74, Tryz.ntmps74
    go_wp2
    go_ret
    exact ⟨by unfold lowerB; first | (rw [decide_eq_true (by omega)]; simp; done) | (rw [decide_eq_false (by omega)]; simp; done) | (simp [h1, h2]; done) | (simp; omega), rfl⟩

set_option maxHeartbeats 400000 in
theorem upper_any (c : Int) (w : World) :
    Calls Tryz.prog 75 #[.int .u8 c] w fun e w' => e = .returned (.bool (upperB c)) ∧ w = w' := by
  by_cases h1 : 65 ≤ c <;> by_cases h2 : c ≤ 90
  all_goals
    go_enter Tryz.func75, Tryz.ntmps75
    go_wp2
    go_ret
    exact ⟨by unfold upperB; first | (rw [decide_eq_true (by omega)]; simp; done) | (rw [decide_eq_false (by omega)]; simp; done) | (simp [h1, h2]; done) | (simp; omega), rfl⟩
set_option maxHeartbeats 400000 in
theorem digit_any (c : Int) (w : World) :
    Calls Tryz.prog 90 #[.int .u8 c] w fun e w' => e = .returned (.bool (digitB c)) ∧ w = w' := by
  by_cases h1 : 48 ≤ c <;> by_cases h2 : c ≤ 57
  all_goals
    go_enter Tryz.func90, Tryz.ntmps90
    go_wp2
    go_ret
    exact ⟨by unfold digitB; first | (rw [decide_eq_true (by omega)]; simp; done) | (rw [decide_eq_false (by omega)]; simp; done) | (simp [h1, h2]; done) | (simp; omega), rfl⟩

set_option maxHeartbeats 400000 in
theorem word_any (c : Int) (w : World) :
    Calls Tryz.prog 88 #[.int .u8 c] w fun e w' => e = .returned (.bool (wordB c)) ∧ w = w' := by
  cases h1 : lowerB c <;> cases h2 : upperB c <;> cases h3 : digitB c <;> by_cases h4 : c = 95
  all_goals
    have hw : wordB c = (lowerB c || upperB c || digitB c || decide (c = 95)) := rfl
    simp only [h1, h2, h3, h4, Bool.or_true, Bool.or_false, decide_true, decide_false] at hw
    first | subst h4 | (have h5 : (c == 95) = false := by simpa using h4)
    go_enter Tryz.func88, Tryz.ntmps88
    go_wp2_with (first
      | (go_at_call 74; refine (lower_any _ _).mono ?_; rintro e w' ⟨rfl, rfl⟩)
      | (go_at_call 75; refine (upper_any _ _).mono ?_; rintro e w' ⟨rfl, rfl⟩)
      | (go_at_call 90; refine (digit_any _ _).mono ?_; rintro e w' ⟨rfl, rfl⟩))
    go_ret
    exact ⟨by rw [hw]; rfl, rfl⟩

def allB (p : Int → Bool) (s : ByteArray) : Bool := s.data.toList.all fun b => p b.toNat
theorem allB_false {p : Int → Bool} {s : ByteArray} {k : Nat} (hk : k < s.size) (h : p s[k].toNat = false) : allB p s = false := by
  unfold allB
  rw [List.all_eq_false]
  exact ⟨s[k], by rw [show s[k] = s.data.toList[k]'(by simpa using hk) from rfl]; exact List.getElem_mem _, by rw [h]; simp⟩
theorem allB_true {p : Int → Bool} {s : ByteArray} {k : Nat} (hk : ¬ k < s.size) (h : (s.data.toList.take k).all (fun b => p b.toNat) = true) : allB p s = true := by
  unfold allB
  rwa [List.take_of_length_le (by simp; omega)] at h

set_option maxHeartbeats 400000 in
/-- 'all' at the class 'word'. -/
theorem all_word (s : ByteArray) (w : World) (hs : s.size ≤ maxLen) :
    Calls Tryz.prog 87 #[.string s, .func (.func 88) #[] #[]] w fun e w' => e = .returned (.bool (allB wordB s)) ∧ w = w' := by
  unfold maxLen at hs
  go_enter Tryz.func87, Tryz.ntmps87
  go_wp2
  go_loop [5, 8] (fun _ i => ∃ k : Nat, k ≤ s.size ∧ i = .int .i64 k ∧ (s.data.toList.take k).all (fun b => wordB b.toNat) = true) (fun _ i => s.size - (intOf i).toNat)
  case atStart => exact ⟨0, Nat.zero_le _, rfl, rfl⟩
  case round =>
    obtain ⟨k, hk, rfl, hr⟩ := hrel
    by_cases hlt : k < s.size
    · have hts : s.data.toList.take (k + 1) = s.data.toList.take k ++ [s[k]] := by
        rw [List.take_succ_eq_append_getElem (by simpa using hlt)]; rfl
      have HT := Lib.hid hts; clear hts
      have HR := Lib.hid hr; clear hr
      cases hp : wordB s[k].toNat
      · have HP := Lib.hid hp
        go_wp2_with (go_at_call 88; refine (word_any _ _).mono ?_; rintro e w' ⟨rfl, rfl⟩)
        go_ret
        exact ⟨by rw [allB_false hlt HP.out]; rfl, rfl⟩
      · have HP := Lib.hid hp
        go_wp2_with (go_at_call 88; refine (word_any _ _).mono ?_; rintro e w' ⟨rfl, rfl⟩)
        go_round
        case rel => exact ⟨k + 1, by omega, by go_num, by rw [HT.out, List.all_append, HR.out]; simp [HP.out]⟩
        case measure => simp [intOf]; omega
    · have HR := Lib.hid hr; clear hr
      go_wp2
      go_ret
      exact ⟨by rw [allB_true hlt HR.out]; rfl, rfl⟩
set_option maxHeartbeats 400000 in
/-- 'all' at the class 'digit'. -/
theorem all_digit (s : ByteArray) (w : World) (hs : s.size ≤ maxLen) :
    Calls Tryz.prog 87 #[.string s, .func (.func 90) #[] #[]] w fun e w' => e = .returned (.bool (allB digitB s)) ∧ w = w' := by
  unfold maxLen at hs
  go_enter Tryz.func87, Tryz.ntmps87
  go_wp2
  go_loop [5, 8] (fun _ i => ∃ k : Nat, k ≤ s.size ∧ i = .int .i64 k ∧ (s.data.toList.take k).all (fun b => digitB b.toNat) = true) (fun _ i => s.size - (intOf i).toNat)
  case atStart => exact ⟨0, Nat.zero_le _, rfl, rfl⟩
  case round =>
    obtain ⟨k, hk, rfl, hr⟩ := hrel
    by_cases hlt : k < s.size
    · have hts : s.data.toList.take (k + 1) = s.data.toList.take k ++ [s[k]] := by
        rw [List.take_succ_eq_append_getElem (by simpa using hlt)]; rfl
      have HT := Lib.hid hts; clear hts
      have HR := Lib.hid hr; clear hr
      cases hp : digitB s[k].toNat
      · have HP := Lib.hid hp
        go_wp2_with (go_at_call 90; refine (digit_any _ _).mono ?_; rintro e w' ⟨rfl, rfl⟩)
        go_ret
        exact ⟨by rw [allB_false hlt HP.out]; rfl, rfl⟩
      · have HP := Lib.hid hp
        go_wp2_with (go_at_call 90; refine (digit_any _ _).mono ?_; rintro e w' ⟨rfl, rfl⟩)
        go_round
        case rel => exact ⟨k + 1, by omega, by go_num, by rw [HT.out, List.all_append, HR.out]; simp [HP.out]⟩
        case measure => simp [intOf]; omega
    · have HR := Lib.hid hr; clear hr
      go_wp2
      go_ret
      exact ⟨by rw [allB_true hlt HR.out]; rfl, rfl⟩
end Go.Proofs.YtnobmffgchlijaaGreatDoor
