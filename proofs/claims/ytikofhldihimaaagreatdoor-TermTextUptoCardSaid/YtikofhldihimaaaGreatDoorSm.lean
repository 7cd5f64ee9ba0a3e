/- The statements' helpers: SameTerm, sign, small. -/
import Derived.Test.YtikofhldihimaaaGreatDoorSz
import Derived.StillTailTactics
import Derived.Deep.QuietTactic
import Derived.BigQuiet
namespace Go.Proofs.YtikofhldihimaaaGreatDoor
open Go.RowKit

mutual
/-- Equal in every field, on all levels. -/
def sameB (t t' : Tm) : Bool := match t, t' with
  | .mk k n s us, .mk k' n' s' us' => (k == k') && ((n == n') && ((s.toList == s'.toList) && sameL us us'))
def sameL (us us' : List Tm) : Bool := match us, us' with
  | [], [] => true
  | t :: ts, t' :: ts' => sameB t t' && sameL ts ts'
  | _, _ => false
end
theorem bytes_inj {s t : ByteArray} (h : s.toList = t.toList) : s = t := by
  rw [ByteArray.toList_eq, ByteArray.toList_eq] at h
  cases s; cases t
  simp only at h
  congr 1
  exact Array.toList_inj.1 h
mutual
theorem sameB_iff : ∀ t t' : Tm, sameB t t' = true ↔ t = t'
  | .mk k n s us, .mk k' n' s' us' => by
    simp only [sameB, Bool.and_eq_true, beq_iff_eq, sameL_iff us us']
    constructor
    · rintro ⟨rfl, rfl, h, rfl⟩; rw [bytes_inj h]
    · intro e; injection e with e1 e2 e3 e4; subst e1 e2 e3 e4; exact ⟨rfl, rfl, rfl, rfl⟩
theorem sameL_iff : ∀ us us' : List Tm, sameL us us' = true ↔ us = us'
  | [], [] => by simp [sameL]
  | [], _ :: _ => by simp [sameL]
  | _ :: _, [] => by simp [sameL]
  | t :: ts, t' :: ts' => by simp only [sameL, Bool.and_eq_true, sameB_iff t t', sameL_iff ts ts', List.cons.injEq]
end
theorem sameL_len {us us' : List Tm} (h : us.length ≠ us'.length) : sameL us us' = false := by
  cases e : sameL us us' with
  | false => rfl
  | true => exact absurd (congrArg List.length ((sameL_iff us us').1 e)) h






set_option maxHeartbeats 1000000 in
theorem small_any (us : List Tm) (a : Option Addr) (cap : Nat) (w : World) (hl : us.length ≤ maxLen) (hargs : us ≠ [] → ∃ b off, a = some ⟨b, off, none⟩ ∧ b < w.heap.size ∧ IsTms w.heap.size w b off us) :
    Calls Tryz.prog 5 #[.slice a us.length cap] w fun e w' => e = .returned (.bool (decide (sizeL us 0 300 ≤ 300))) ∧ Below w.heap.size w w' := by
  have HS := Lib.hid (sizeTerms_any us a cap 300 w hl (by omega) (by omega) hargs)
  clear hargs hl
  obtain ⟨R, hR⟩ : ∃ R, sizeL us 0 300 = R := ⟨_, rfl⟩
  rw [hR] at HS ⊢
  clear hR
  go_enter Tryz.func5, Tryz.ntmps5
  go_wp2_with (go_at_call 19; refine HS.out.mono ?_; clear HS; rintro e W2 ⟨rfl, hB2⟩)
  go_ret
  exact ⟨rfl, hB2⟩
/-- What small lets through is small. -/
theorem small_count {us : List Tm} (h : sizeL us 0 300 ≤ 300) : Tm.countL us ≤ 300 := by
  have := sizeL_whole us 0 300 h
  omega
end Go.Proofs.YtikofhldihimaaaGreatDoor
