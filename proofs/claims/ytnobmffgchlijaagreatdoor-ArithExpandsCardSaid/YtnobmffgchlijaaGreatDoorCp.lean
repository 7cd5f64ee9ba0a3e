/- Package term: Compare's parts. -/
import Derived.Test.YtnobmffgchlijaaGreatDoorProg
import Derived.Test.YtnobmffgchlijaaGreatDoorTm
import Derived.Test.YtnobmffgchlijaaGreatDoorShelf
import Derived.WalkKit
import Derived.WalkSpells
import Derived.WalkLawsBesides
namespace Go.Proofs.YtnobmffgchlijaaGreatDoor
open Go.RowKit

def rankI (k : Int) : Int := if k = 4 then 3 else if k = 3 then 4 else if k = 1 ∨ k = 2 ∨ k = 5 ∨ k = 6 then k else 7 + k

set_option maxHeartbeats 1000000 in
theorem rank_any (k : Int) (w : World) (hk : 0 ≤ k ∧ k ≤ 255) :
    Calls Tryz.prog 42 #[.int .u8 k] w fun e w' => e = .returned (.int .i64 (rankI k)) ∧ w = w' := by
  obtain ⟨h0, h1⟩ := hk
  have hcs : k = 1 ∨ k = 2 ∨ k = 3 ∨ k = 4 ∨ k = 5 ∨ k = 6 ∨ (k ≠ 1 ∧ k ≠ 2 ∧ k ≠ 3 ∧ k ≠ 4 ∧ k ≠ 5 ∧ k ≠ 6) := by omega
  rcases hcs with rfl | rfl | rfl | rfl | rfl | rfl | ⟨e1, e2, e3, e4, e5, e6⟩
  case inr.inr.inr.inr.inr.inr =>
    have hr : rankI k = 7 + k := by unfold rankI; rw [if_neg e4, if_neg e3, if_neg (by omega)]
    have HR := Lib.hid hr; clear hr
    have g1 : (k == 1) = false := by simpa using e1
    have g2 : (k == 2) = false := by simpa using e2
    have g3 : (k == 3) = false := by simpa using e3
    have g4 : (k == 4) = false := by simpa using e4
    have g5 : (k == 5) = false := by simpa using e5
    have g6 : (k == 6) = false := by simpa using e6
    clear e1 e2 e3 e4 e5 e6
    go_enter Tryz.func42, Tryz.ntmps42
    go_wp2
    go_ret
    exact ⟨by rw [HR.out]; rfl, rfl⟩
  all_goals
    go_enter Tryz.func42, Tryz.ntmps42
    go_wp2
    go_ret
    exact ⟨rfl, rfl⟩

def strCmp (s t : ByteArray) : Int := if Op.bytesLess s.toList t.toList then -1 else if s.toList == t.toList then 0 else 1

set_option maxHeartbeats 1000000 in
theorem compareString_any (s t : ByteArray) (w : World) :
    Calls Tryz.prog 44 #[.string s, .string t] w fun e w' => e = .returned (.int .i64 (strCmp s t)) ∧ w = w' := by
  have hr : strCmp s t = (if Op.bytesLess s.toList t.toList then -1 else if s.toList == t.toList then 0 else 1) := rfl
  have HR := Lib.hid hr; clear hr
  cases h1 : Op.bytesLess s.toList t.toList <;> cases h2 : s.toList == t.toList
  all_goals
    have H1 := Lib.hid h1
    have H2 := Lib.hid h2
    go_enter Tryz.func44, Tryz.ntmps44
    go_wp2
    go_ret
    exact ⟨by rw [HR.out, H1.out, H2.out]; rfl, rfl⟩

def orI (a b : Int) : Int := if a ≠ 0 then a else b

set_option maxHeartbeats 1000000 in
/-- cmp.Or of two ints that lie in a new block. -/
theorem or_two (b : Nat) (x y : Int) (cap : Nat) (w : World) (h0 : w.cell? ⟨b, 0, none⟩ = some (.int .i64 x)) (h1 : w.cell? ⟨b, 1, none⟩ = some (.int .i64 y)) :
    Calls Tryz.prog 43 #[.slice (some ⟨b, 0, none⟩) 2 cap] w fun e w' => e = .returned (.int .i64 (orI x y)) ∧ w = w' := by
  have hr : orI x y = (if x ≠ 0 then x else y) := rfl
  have HR := Lib.hid hr; clear hr
  go_enter Tryz.func43, Tryz.ntmps43
  go_wp2
  go_loop [5, 8] (fun _ i => ∃ k : Nat, k ≤ 2 ∧ i = .int .i64 k ∧ (1 ≤ k → x = 0) ∧ (2 ≤ k → y = 0)) (fun _ i => 2 - (intOf i).toNat)
  case atStart => exact ⟨0, by omega, rfl, by omega, by omega⟩
  case round =>
    obtain ⟨k, hk, rfl, hx, hy⟩ := hrel
    have hkc : k = 0 ∨ k = 1 ∨ k = 2 := by omega
    have HX := Lib.hid hx; clear hx
    have HY := Lib.hid hy; clear hy
    rcases hkc with rfl | rfl | rfl
    · by_cases hz : x = 0
      · have HZ := Lib.hid hz
        have hz' : (x != 0) = false := by simpa using hz
        clear hz
        go_wp2
        go_round
        case rel => exact ⟨1, by omega, by go_num, fun _ => HZ.out, by omega⟩
        case measure => simp [intOf]
      · have HZ := Lib.hid hz
        have hz' : (x != 0) = true := by simpa using hz
        clear hz
        go_wp2
        go_ret
        exact ⟨by rw [HR.out, if_pos HZ.out]; rfl, rfl⟩
    · by_cases hz : y = 0
      · have HZ := Lib.hid hz
        have hz' : (y != 0) = false := by simpa using hz
        clear hz
        go_wp2
        go_round
        case rel => exact ⟨2, by omega, by go_num, fun _ => HX.out (by omega), fun _ => HZ.out⟩
        case measure => simp [intOf]
      · have HZ := Lib.hid hz
        have hz' : (y != 0) = true := by simpa using hz
        clear hz
        go_wp2
        go_ret
        exact ⟨by rw [HR.out, if_neg (by simpa using HX.out (by omega))]; rfl, rfl⟩
    · go_wp2
      go_ret
      exact ⟨by rw [HR.out, HX.out (by omega), HY.out (by omega)]; rfl, rfl⟩
end Go.Proofs.YtnobmffgchlijaaGreatDoor
