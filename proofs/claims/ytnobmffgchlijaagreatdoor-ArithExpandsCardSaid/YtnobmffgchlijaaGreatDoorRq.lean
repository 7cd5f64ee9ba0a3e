/- Package term: the requirements of each kind. -/
import Derived.Test.YtnobmffgchlijaaGreatDoorSy
namespace Go.Proofs.YtnobmffgchlijaaGreatDoor
open Go.RowKit

def operB (s : ByteArray) (m : Nat) : Bool :=
  if s.toList == [45] then decide (m = 1) || decide (m = 2) else (s.toList == [43] || s.toList == [42] || s.toList == [47] || s.toList == [92]) && decide (m = 2)

def reqB (k : Int) (n : Int) (s : ByteArray) (m : Nat) : Bool :=
  if k = 1 then decide (-2147483647 ≤ n) && decide (n ≤ 2147483647) && s.toList.isEmpty && decide (m = 0)
  else if k = 2 then decide (n = 0) && decide (m = 0) && symbolB s
  else if k = 3 then decide (n = 0) && decide (m = 0) && variableB s
  else if k = 4 then decide (n = 0) && decide (1 ≤ m) && decide (m ≤ 8) && symbolB s
  else if k = 5 then decide (n = 0) && operB s m
  else if k = 6 then decide (n = 0) && s.toList.isEmpty && decide (m = 2)
  else false

set_option maxHeartbeats 2000000 in
theorem req1 (k n lv : Int) (s : ByteArray) (a : Option Addr) (m cap : Nat) (w : World) (hm : m ≤ maxLen) :
    Calls Tryz.prog 55 #[.agg #[.int .u8 k, .int .i64 n, .string s, .slice a m cap, .int .i64 lv]] w fun e w' => e = .returned (.bool (reqB 1 n s m)) ∧ w' = w.alloc (.cells #[.int .u8 k, .int .i64 n, .string s, .slice a m cap, .int .i64 lv] 68) := by
  unfold maxLen at hm
  have hr : reqB 1 n s m = (decide (-2147483647 ≤ n) && decide (n ≤ 2147483647) && s.toList.isEmpty && decide (m = 0)) := rfl
  have HR := Lib.hid hr; clear hr
  by_cases h1 : -2147483647 ≤ n <;> by_cases h2 : n ≤ 2147483647 <;> cases h3 : s.toList.isEmpty <;> by_cases h4 : m = 0
  all_goals try (exfalso; omega)
  all_goals
    have H1 := Lib.hid h1
    have H2 := Lib.hid h2
    have H3 := Lib.hid h3
    have H4 := Lib.hid h4
    first | subst h4 | (have h5 : ((m : Int) == 0) = false := by simpa using h4)
    go_enter Tryz.func55, Tryz.ntmps55
    go_wp2
    go_ret
    exact ⟨by rw [HR.out]; simp [H1.out, H2.out, H3.out, H4.out], rfl⟩
set_option maxHeartbeats 2000000 in
theorem req2 (k n lv : Int) (s : ByteArray) (a : Option Addr) (m cap : Nat) (w : World) (hm : m ≤ maxLen) (hs : s.size ≤ maxLen) :
    Calls Tryz.prog 56 #[.agg #[.int .u8 k, .int .i64 n, .string s, .slice a m cap, .int .i64 lv]] w fun e w' => e = .returned (.bool (reqB 2 n s m)) ∧ w' = w.alloc (.cells #[.int .u8 k, .int .i64 n, .string s, .slice a m cap, .int .i64 lv] 68) := by
  unfold maxLen at hm
  have hr : reqB 2 n s m = (decide (n = 0) && decide (m = 0) && symbolB s) := rfl
  have HR := Lib.hid hr; clear hr
  by_cases h1 : n = 0 <;> by_cases h4 : m = 0
  all_goals
    have H1 := Lib.hid h1
    have H4 := Lib.hid h4
    first | subst h1 | (have h6 : (n == 0) = false := by simpa using h1)
    first | subst h4 | (have h5 : ((m : Int) == 0) = false := by simpa using h4)
    go_enter Tryz.func56, Tryz.ntmps56
    go_wp2_with (go_at_call 57; refine (symbol_any _ _ hs).mono ?_; rintro e w' ⟨rfl, rfl⟩)
    go_ret
    exact ⟨by rw [HR.out]; simp [H1.out, H4.out], rfl⟩
set_option maxHeartbeats 2000000 in
theorem req3 (k n lv : Int) (s : ByteArray) (a : Option Addr) (m cap : Nat) (w : World) (hm : m ≤ maxLen) (hs : s.size ≤ maxLen) :
    Calls Tryz.prog 58 #[.agg #[.int .u8 k, .int .i64 n, .string s, .slice a m cap, .int .i64 lv]] w fun e w' => e = .returned (.bool (reqB 3 n s m)) ∧ w' = w.alloc (.cells #[.int .u8 k, .int .i64 n, .string s, .slice a m cap, .int .i64 lv] 68) := by
  unfold maxLen at hm
  have hr : reqB 3 n s m = (decide (n = 0) && decide (m = 0) && variableB s) := rfl
  have HR := Lib.hid hr; clear hr
  by_cases h1 : n = 0 <;> by_cases h4 : m = 0
  all_goals
    have H1 := Lib.hid h1
    have H4 := Lib.hid h4
    first | subst h1 | (have h6 : (n == 0) = false := by simpa using h1)
    first | subst h4 | (have h5 : ((m : Int) == 0) = false := by simpa using h4)
    go_enter Tryz.func58, Tryz.ntmps58
    go_wp2_with (go_at_call 59; refine (variable_any _ _ hs).mono ?_; rintro e w' ⟨rfl, rfl⟩)
    go_ret
    exact ⟨by rw [HR.out]; simp [H1.out, H4.out], rfl⟩
set_option maxHeartbeats 2000000 in
theorem req4 (k n lv : Int) (s : ByteArray) (a : Option Addr) (m cap : Nat) (w : World) (hm : m ≤ maxLen) (hs : s.size ≤ maxLen) :
    Calls Tryz.prog 60 #[.agg #[.int .u8 k, .int .i64 n, .string s, .slice a m cap, .int .i64 lv]] w fun e w' => e = .returned (.bool (reqB 4 n s m)) ∧ w' = w.alloc (.cells #[.int .u8 k, .int .i64 n, .string s, .slice a m cap, .int .i64 lv] 68) := by
  unfold maxLen at hm
  have hr : reqB 4 n s m = (decide (n = 0) && decide (1 ≤ m) && decide (m ≤ 8) && symbolB s) := rfl
  have HR := Lib.hid hr; clear hr
  by_cases h1 : n = 0 <;> by_cases h2 : 1 ≤ m <;> by_cases h4 : m ≤ 8
  all_goals try (exfalso; omega)
  all_goals
    have H1 := Lib.hid h1
    have H2 := Lib.hid h2
    have H4 := Lib.hid h4
    first | subst h1 | (have h6 : (n == 0) = false := by simpa using h1)
    go_enter Tryz.func60, Tryz.ntmps60
    go_wp2_with (go_at_call 57; refine (symbol_any _ _ hs).mono ?_; rintro e w' ⟨rfl, rfl⟩)
    go_ret
    exact ⟨by rw [HR.out]; simp [H1.out, H2.out, H4.out], rfl⟩
set_option maxHeartbeats 2000000 in
theorem req6 (k n lv : Int) (s : ByteArray) (a : Option Addr) (m cap : Nat) (w : World) (hm : m ≤ maxLen) :
    Calls Tryz.prog 63 #[.agg #[.int .u8 k, .int .i64 n, .string s, .slice a m cap, .int .i64 lv]] w fun e w' => e = .returned (.bool (reqB 6 n s m)) ∧ w' = w.alloc (.cells #[.int .u8 k, .int .i64 n, .string s, .slice a m cap, .int .i64 lv] 68) := by
  unfold maxLen at hm
  have hr : reqB 6 n s m = (decide (n = 0) && s.toList.isEmpty && decide (m = 2)) := rfl
  have HR := Lib.hid hr; clear hr
  by_cases h1 : n = 0 <;> cases h3 : s.toList.isEmpty <;> by_cases h4 : m = 2
  all_goals
    have H1 := Lib.hid h1
    have H3 := Lib.hid h3
    have H4 := Lib.hid h4
    first | subst h1 | (have h6 : (n == 0) = false := by simpa using h1)
    first | subst h4 | (have h5 : ((m : Int) == 2) = false := by rw [beq_eq_false_iff_ne]; omega)
    go_enter Tryz.func63, Tryz.ntmps63
    go_wp2
    go_ret
    exact ⟨by rw [HR.out]; simp [H1.out, H3.out, H4.out], rfl⟩

set_option maxHeartbeats 2000000 in
theorem operator_any (s : ByteArray) (m : Nat) (w : World) (hm : m ≤ maxLen) :
    Calls Tryz.prog 62 #[.string s, .int .i64 m] w fun e w' => e = .returned (.bool (operB s m)) ∧ w = w' := by
  unfold maxLen at hm
  have hr : operB s m = (if s.toList == [45] then decide (m = 1) || decide (m = 2) else (s.toList == [43] || s.toList == [42] || s.toList == [47] || s.toList == [92]) && decide (m = 2)) := rfl
  have HR := Lib.hid hr; clear hr
  have hc : m = 1 ∨ m = 2 ∨ (m ≠ 1 ∧ m ≠ 2) := by omega
  cases e1 : s.toList == [45] <;> cases e2 : s.toList == [43] <;> cases e3 : s.toList == [42] <;> cases e4 : s.toList == [47] <;> cases e5 : s.toList == [92]
  all_goals try (exfalso; simp only [beq_iff_eq] at e1 e2 e3 e4 e5; simp_all; done)
  all_goals
    have E1 := Lib.hid e1
    have E2 := Lib.hid e2
    have E3 := Lib.hid e3
    have E4 := Lib.hid e4
    have E5 := Lib.hid e5
    rcases hc with rfl | rfl | ⟨h1, h2⟩
    · go_enter Tryz.func62, Tryz.ntmps62
      go_wp2
      go_ret
      exact ⟨by rw [HR.out, E1.out, E2.out, E3.out, E4.out, E5.out]; rfl, rfl⟩
    · go_enter Tryz.func62, Tryz.ntmps62
      go_wp2
      go_ret
      exact ⟨by rw [HR.out, E1.out, E2.out, E3.out, E4.out, E5.out]; rfl, rfl⟩
    · have g1 : ((m : Int) == 1) = false := by rw [beq_eq_false_iff_ne]; omega
      have g2 : ((m : Int) == 2) = false := by rw [beq_eq_false_iff_ne]; omega
      have H1 := Lib.hid h1
      have H2 := Lib.hid h2
      clear h1 h2
      go_enter Tryz.func62, Tryz.ntmps62
      go_wp2
      go_ret
      exact ⟨by rw [HR.out, E1.out, E2.out, E3.out, E4.out, E5.out]; simp [H1.out, H2.out], rfl⟩

theorem req5B (n : Int) (s : ByteArray) (m : Nat) : reqB 5 n s m = (decide (n = 0) && operB s m) := rfl

set_option maxHeartbeats 2000000 in
theorem req5 (k n lv : Int) (s : ByteArray) (a : Option Addr) (m cap : Nat) (w : World) (hm : m ≤ maxLen) :
    Calls Tryz.prog 61 #[.agg #[.int .u8 k, .int .i64 n, .string s, .slice a m cap, .int .i64 lv]] w fun e w' => e = .returned (.bool (reqB 5 n s m)) ∧ w' = w.alloc (.cells #[.int .u8 k, .int .i64 n, .string s, .slice a m cap, .int .i64 lv] 68) := by
  have HM := Lib.hid hm
  have HR := Lib.hid (req5B n s m)
  by_cases h1 : n = 0
  all_goals
    have H1 := Lib.hid h1
    first | subst h1 | (have h6 : (n == 0) = false := by simpa using h1)
    go_enter Tryz.func61, Tryz.ntmps61
    go_wp2_with (go_at_call 62; refine (operator_any _ _ _ HM.out).mono ?_; rintro e w' ⟨rfl, rfl⟩)
    go_ret
    exact ⟨by rw [HR.out]; simp [H1.out], rfl⟩
end Go.Proofs.YtnobmffgchlijaaGreatDoor
