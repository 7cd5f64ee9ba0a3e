/- Package lex: the classes of bytes, and the tests made of them. -/
import Derived.Test.YtgepfenjbjlgpaaGreatDoorProg
import Derived.WalkKit
import Derived.WalkSpells
import Derived.WalkLawsBesides
import Derived.Deep.QuietTactic
import Derived.BigQuiet
import Derived.Lib.Hide
namespace Go.Proofs.YtgepfenjbjlgpaaGreatDoor
open Go.RowKit

/-- The class of a byte. -/
def clsI (c : Int) : Int :=
  if c = 32 ∨ c = 9 ∨ c = 10 ∨ c = 13 then 1
  else if (97 ≤ c ∧ c ≤ 122) ∨ (65 ≤ c ∧ c ≤ 90) then 2
  else if 48 ≤ c ∧ c ≤ 57 then 4
  else if c = 95 then 8
  else if c = 37 then 16
  else if c = 35 then 32
  else 0

set_option maxHeartbeats 1000000 in
theorem classOf_lit {c : Int} (hc : c = 32 ∨ c = 9 ∨ c = 10 ∨ c = 13 ∨ c = 95 ∨ c = 37 ∨ c = 35) (w : World) :
    Calls Tryz.prog 87 #[.int .u8 c] w fun e w' => e = .returned (.int .u8 (clsI c)) ∧ w = w' := by
  rcases hc with rfl | rfl | rfl | rfl | rfl | rfl | rfl
  all_goals
    go_enter Tryz.func87, Tryz.ntmps87
    go_wp2
    go_ret
    exact ⟨rfl, rfl⟩

theorem cls_letter {c : Int} (h : (97 ≤ c ∧ c ≤ 122) ∨ (65 ≤ c ∧ c ≤ 90)) : clsI c = 2 := by
  unfold clsI; rw [if_neg (by omega), if_pos h]
theorem cls_digit {c : Int} (h : 48 ≤ c ∧ c ≤ 57) : clsI c = 4 := by
  unfold clsI; rw [if_neg (by omega), if_neg (by omega), if_pos h]
theorem cls_none {c : Int} (h0 : ¬ (c = 32 ∨ c = 9 ∨ c = 10 ∨ c = 13 ∨ c = 95 ∨ c = 37 ∨ c = 35)) (h1 : ¬ ((97 ≤ c ∧ c ≤ 122) ∨ (65 ≤ c ∧ c ≤ 90))) (h2 : ¬ (48 ≤ c ∧ c ≤ 57)) : clsI c = 0 := by
  unfold clsI; rw [if_neg (by omega), if_neg h1, if_neg h2, if_neg (by omega), if_neg (by omega), if_neg (by omega)]

set_option maxHeartbeats 1000000 in
theorem classOf_any (c : Int) (w : World) :
    Calls Tryz.prog 87 #[.int .u8 c] w fun e w' => e = .returned (.int .u8 (clsI c)) ∧ w = w' := by
  by_cases h0 : c = 32 ∨ c = 9 ∨ c = 10 ∨ c = 13 ∨ c = 95 ∨ c = 37 ∨ c = 35
  · exact classOf_lit h0 w
  have HC := Lib.hid (@cls_letter c)
  have HD := Lib.hid (@cls_digit c)
  have HN := Lib.hid (@cls_none c h0)
  have e1 : (c == 32) = false := by rw [beq_eq_false_iff_ne]; intro e; exact h0 (by omega)
  have e2 : (c == 9) = false := by rw [beq_eq_false_iff_ne]; intro e; exact h0 (by omega)
  have e3 : (c == 10) = false := by rw [beq_eq_false_iff_ne]; intro e; exact h0 (by omega)
  have e4 : (c == 13) = false := by rw [beq_eq_false_iff_ne]; intro e; exact h0 (by omega)
  have e5 : (c == 95) = false := by rw [beq_eq_false_iff_ne]; intro e; exact h0 (by omega)
  have e6 : (c == 37) = false := by rw [beq_eq_false_iff_ne]; intro e; exact h0 (by omega)
  have e7 : (c == 35) = false := by rw [beq_eq_false_iff_ne]; intro e; exact h0 (by omega)
  clear h0
  by_cases a1 : 97 ≤ c <;> by_cases a2 : c ≤ 122 <;> by_cases b1 : 65 ≤ c <;> by_cases b2 : c ≤ 90 <;> by_cases d1 : 48 ≤ c <;> by_cases d2 : c ≤ 57
  all_goals first
    | (exfalso; clear e1 e2 e3 e4 e5 e6 e7; omega)
    | (go_enter Tryz.func87, Tryz.ntmps87
       go_wp2
       go_ret
       exact ⟨by first | (rw [HC.out (by omega)]; rfl) | (rw [HD.out (by omega)]; rfl) | (rw [HN.out (by omega) (by omega)]; rfl), rfl⟩)

theorem cls_lit (c : Int) : clsI c = 0 ∨ clsI c = 1 ∨ clsI c = 2 ∨ clsI c = 4 ∨ clsI c = 8 ∨ clsI c = 16 ∨ clsI c = 32 := by
  unfold clsI; repeat' split
  all_goals simp

/-- Is the class of the byte among those of k? -/
def inB (k c : Int) : Bool := bits BinOp.and IntKind.u8 (clsI c) k != 0

set_option maxHeartbeats 1000000 in
theorem in1_any (k c : Int) (b : Nat) (w : World) (hb : w.cell? ⟨b, 0, none⟩ = some (.int .u8 k)) :
    Calls Tryz.prog 86 #[.int .u8 c, .pointer (some ⟨b, 0, none⟩)] w fun e w' => e = .returned (.bool (inB k c)) ∧ ∃ n, w' = w.drewN n := by
  go_enter Tryz.func86, Tryz.ntmps86
  go_wp2
  go_quiet ((go_at_call 87; exact Calls.quiet_of_same ((classOf_any c _).mono fun _ _ ⟨h, h'⟩ => ⟨h, h'.symm⟩)))
  go_wp2
  go_ret
  exact ⟨rfl, _, rfl⟩

set_option maxHeartbeats 1000000 in
/-- A test of classes lies in a box of its own. -/
theorem in_any (k : Int) (w : World) :
    Calls Tryz.prog 63 #[.int .u8 k] w fun e w' => e = .returned (.func (.func 86) #[] #[.pointer (some ⟨w.heap.size, 0, none⟩)]) ∧ w' = w.alloc (.cells #[.int .u8 k] 97) := by
  go_enter Tryz.func63, Tryz.ntmps63
  go_wp2
  go_ret
  exact ⟨rfl, rfl⟩

def nlB (c : Int) : Bool := !(c == 10)
set_option maxHeartbeats 1000000 in
theorem skip1_any (c : Int) (w : World) :
    Calls Tryz.prog 65 #[.int .u8 c] w fun e w' => e = .returned (.bool (nlB c)) ∧ w = w' := by
  cases h : (c == 10)
  · have h' : (c != 10) = true := by rw [bne, h]; rfl
    have HN := Lib.hid (show nlB c = true by unfold nlB; rw [h]; rfl)
    clear h
    go_enter Tryz.func65, Tryz.ntmps65
    go_wp2
    go_ret
    exact ⟨by rw [HN.out]; rfl, rfl⟩
  · obtain rfl : c = 10 := by simpa using h
    clear h
    go_enter Tryz.func65, Tryz.ntmps65
    go_wp2
    go_ret
    exact ⟨rfl, rfl⟩

/-- The byte at an offset passes a test. -/
def begB (p : Int → Bool) (s : ByteArray) (a : Nat) : Bool := if h : a < s.size then p s[a].toNat else false

set_option maxHeartbeats 1000000 in
theorem begins_in (k : Int) (s : ByteArray) (a S b : Nat) (w : World) (hs : s.size ≤ maxLen) (h0 : w.cell? ⟨S, 0, none⟩ = some (.string s)) (h1 : w.cell? ⟨S, 1, none⟩ = some (.int .i64 a)) (hb : w.cell? ⟨b, 0, none⟩ = some (.int .u8 k)) :
    Calls Tryz.prog 62 #[.pointer (some ⟨S, 0, none⟩), .func (.func 86) #[] #[.pointer (some ⟨b, 0, none⟩)]] w fun e w' => e = .returned (.bool (begB (inB k) s a)) ∧ ∃ n, w' = w.drewN n := by
  have hs' := hs; clear hs; unfold maxLen at hs'
  by_cases hlt : a < s.size
  · have HB := Lib.hid (show begB (inB k) s a = inB k s[a].toNat from by unfold begB; rw [dif_pos hlt])
    go_enter Tryz.func62, Tryz.ntmps62
    go_wp2
    go_quiet ((go_at_call 86; exact Calls.quiet_of (in1_any _ _ _ _ (by assumption))))
    go_wp2
    go_ret
    exact ⟨by rw [HB.out]; rfl, _, rfl⟩
  · have HB := Lib.hid (show begB (inB k) s a = false from by unfold begB; rw [dif_neg hlt])
    have hd : decide ((a : Int) < (s.size : Int)) = false := by simpa using hlt
    go_enter Tryz.func62, Tryz.ntmps62
    go_wp2
    go_quiet (fail)
    go_wp2
    go_ret
    exact ⟨by rw [HB.out]; rfl, _, rfl⟩
set_option maxHeartbeats 1000000 in
theorem begins_nl (s : ByteArray) (a S : Nat) (w : World) (hs : s.size ≤ maxLen) (h0 : w.cell? ⟨S, 0, none⟩ = some (.string s)) (h1 : w.cell? ⟨S, 1, none⟩ = some (.int .i64 a)) :
    Calls Tryz.prog 62 #[.pointer (some ⟨S, 0, none⟩), .func (.func 65) #[] #[]] w fun e w' => e = .returned (.bool (begB nlB s a)) ∧ ∃ n, w' = w.drewN n := by
  have hs' := hs; clear hs; unfold maxLen at hs'
  by_cases hlt : a < s.size
  · have HB := Lib.hid (show begB nlB s a = nlB s[a].toNat from by unfold begB; rw [dif_pos hlt])
    go_enter Tryz.func62, Tryz.ntmps62
    go_wp2
    go_quiet ((go_at_call 65; exact Calls.quiet_of_same ((skip1_any _ _).mono fun _ _ ⟨h, h'⟩ => ⟨h, h'.symm⟩)))
    go_wp2
    go_ret
    exact ⟨by rw [HB.out]; rfl, _, rfl⟩
  · have HB := Lib.hid (show begB nlB s a = false from by unfold begB; rw [dif_neg hlt])
    have hd : decide ((a : Int) < (s.size : Int)) = false := by simpa using hlt
    go_enter Tryz.func62, Tryz.ntmps62
    go_wp2
    go_quiet (fail)
    go_wp2
    go_ret
    exact ⟨by rw [HB.out]; rfl, _, rfl⟩
end Go.Proofs.YtgepfenjbjlgpaaGreatDoor
