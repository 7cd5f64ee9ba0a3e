/- The reference model's Compare. -/
import Derived.Test.YtcoieohbmkjpoaaGreatDoorB1a
import Derived.StillTailTactics
import Derived.RangeFuncBox
import Derived.IntWalk
import Derived.Laws.OwnMore
import Derived.OwnWalk
namespace Go.Proofs.YtcoieohbmkjpoaaGreatDoor
open Go.RowKit

set_option maxHeartbeats 1000000 in
theorem rrank_any (k : Int) (w : World) (hk : 0 ≤ k ∧ k ≤ 255) :
    Calls Tryz.prog 83 #[.int .u8 k] w fun e w' => e = .returned (.int .i64 (rankI k)) ∧ w' = w := by
  obtain ⟨h0, h1⟩ := hk
  have hcs : k = 1 ∨ k = 2 ∨ k = 3 ∨ k = 4 ∨ k = 5 ∨ k = 6 ∨ (k ≠ 1 ∧ k ≠ 2 ∧ k ≠ 3 ∧ k ≠ 4 ∧ k ≠ 5 ∧ k ≠ 6) := by omega
  rcases hcs with rfl | rfl | rfl | rfl | rfl | rfl | ⟨e1, e2, e3, e4, e5, e6⟩
  case inr.inr.inr.inr.inr.inr =>
    have hr : rankI k = k + 7 := by unfold rankI; rw [if_neg e4, if_neg e3, if_neg (by omega)]; omega
    have HR := Lib.hid hr; clear hr
    have g1 : (k == 1) = false := by simpa using e1
    have g2 : (k == 2) = false := by simpa using e2
    have g3 : (k == 3) = false := by simpa using e3
    have g4 : (k == 4) = false := by simpa using e4
    have g5 : (k == 5) = false := by simpa using e5
    have g6 : (k == 6) = false := by simpa using e6
    clear e1 e2 e3 e4 e5 e6
    go_enter Tryz.func83, Tryz.ntmps83
    go_wp2
    go_ret
    exact ⟨by rw [HR.out]; rfl, rfl⟩
  all_goals
    go_enter Tryz.func83, Tryz.ntmps83
    go_wp2
    go_ret
    exact ⟨rfl, rfl⟩

set_option maxHeartbeats 1000000 in
theorem rnumbers_any (a b : Int) (w : World) : Calls Tryz.prog 82 #[.int .i64 a, .int .i64 b] w fun e w' => e = .returned (.int .i64 (Lib.compareInt a b)) ∧ w' = w := by
  have hcs : a < b ∨ a = b ∨ b < a := by omega
  have hr : Lib.compareInt a b = if a < b then -1 else if a > b then 1 else 0 := rfl
  rcases hcs with h | h | h
  · have hc : Lib.compareInt a b = -1 := by rw [hr, if_pos h]
    have HC := Lib.hid hc
    clear hc hr
    go_enter Tryz.func82, Tryz.ntmps82
    go_wp2
    go_ret
    exact ⟨by rw [HC.out]; rfl, rfl⟩
  · subst h
    have hc : Lib.compareInt a a = 0 := by rw [hr, if_neg (by omega), if_neg (by omega)]
    have HC := Lib.hid hc
    clear hc hr
    go_enter Tryz.func82, Tryz.ntmps82
    go_wp2
    go_ret
    exact ⟨by rw [HC.out]; rfl, rfl⟩
  · have hc : Lib.compareInt a b = 1 := by rw [hr, if_neg (by omega), if_pos (by omega)]
    have HC := Lib.hid hc
    clear hc hr
    have h2 : ¬ a < b := by omega
    go_enter Tryz.func82, Tryz.ntmps82
    go_wp2
    go_ret
    exact ⟨by rw [HC.out]; rfl, rfl⟩

set_option maxHeartbeats 1000000 in
theorem rtexts_any (s t : ByteArray) (w : World) : Calls Tryz.prog 84 #[.string s, .string t] w fun e w' => e = .returned (.int .i64 (strCmp s t)) ∧ w' = w := by
  have hc : strCmp s t = (if Op.bytesLess s.toList t.toList then -1 else if s.toList == t.toList then 0 else 1) := rfl
  cases h1 : Op.bytesLess s.toList t.toList <;> cases h2 : s.toList == t.toList
  all_goals
    rw [h1, h2] at hc
    have HC := Lib.hid hc
    clear hc
    go_enter Tryz.func84, Tryz.ntmps84
    go_wp2
    go_ret
    exact ⟨by rw [HC.out]; rfl, rfl⟩

/-- The first number that is not 0. -/
def firstI : List Int → Int
  | [] => 0
  | x :: l => if x ≠ 0 then x else firstI l
def zipC : List Tm → List Tm → List Int
  | a :: us, b :: bs => Tm.cmp a b :: zipC us bs
  | _, _ => []
theorem firstI_cons (x : Int) (l : List Int) : firstI (x :: l) = orI x (firstI l) := rfl
theorem firstI_zip : ∀ (us bs : List Tm) (n : Int), us.length = bs.length → firstI (zipC us bs ++ [n]) = orI (Tm.cmpL us bs) n
  | [], [], n, _ => by
    simp only [zipC, List.nil_append, firstI_cons, Tm.cmpL]
    unfold orI firstI
    split <;> simp_all
  | a :: us, b :: bs, n, h => by
    simp only [zipC, List.cons_append, firstI_cons, cmpL_cons]
    rw [firstI_zip us bs n (by simpa using h)]
    unfold orI
    split <;> simp_all
  | [], _ :: _, _, h => by simp at h
  | _ :: _, [], _, h => by simp at h
theorem zipC_length : ∀ us bs : List Tm, (zipC us bs).length = min us.length bs.length
  | [], _ => by simp [zipC]
  | _ :: _, [] => by simp [zipC]
  | a :: us, b :: bs => by simp only [zipC, List.length_cons, zipC_length us bs]; omega
theorem zipC_at : ∀ (us bs : List Tm) (j : Nat) (h : j < us.length) (h' : j < bs.length), (zipC us bs)[j]? = some (Tm.cmp us[j] bs[j])
  | a :: us, b :: bs, 0, _, _ => by simp [zipC]
  | a :: us, b :: bs, j + 1, h, h' => by
    simp only [zipC, List.getElem?_cons_succ, List.getElem_cons_succ]
    exact zipC_at us bs j (by simpa using h) (by simpa using h')
/-- The reference model's list: its first number that is not 0 is Compare. -/
def signsOf (k n k' n' : Int) (s s' : ByteArray) (us us' : List Tm) : List Int :=
  Lib.compareInt (rankI k) (rankI k') :: (if k = 1 then Lib.compareInt n n' else 0) :: Lib.compareInt us.length us'.length :: strCmp s s' :: (zipC us us' ++ [Lib.compareInt n n'])
theorem signs_cmp (k n k' n' : Int) (s s' : ByteArray) (us us' : List Tm) : firstI (signsOf k n k' n' s s' us us') = Tm.cmp (.mk k n s us) (.mk k' n' s' us') := by
  unfold signsOf
  rw [cmp_or, firstI_cons, firstI_cons, firstI_cons, firstI_cons]
  by_cases h : us.length = us'.length
  · rw [firstI_zip us us' _ h]
  · have h3 : Lib.compareInt us.length us'.length ≠ 0 := fun e => h (by have := int_zero.1 e; omega)
    rw [orI_l (b := orI (strCmp s s') (firstI _)) h3, orI_l (b := orI (strCmp s s') _) h3]
end Go.Proofs.YtcoieohbmkjpoaaGreatDoor
