/- The statements' helper has. -/
import Derived.Test.YtlnlpljeflfgbaaGreatDoorRs
import Derived.IntWalk
namespace Go.Proofs.YtlnlpljeflfgbaaGreatDoor
open Go.RowKit

set_option maxRecDepth 100000 in
set_option maxHeartbeats 2000000 in
theorem has_true (L : List ByteArray) (s : ByteArray) (v : Value) (w : World) (hv : StrV w v L) (i0 : Nat) (hi0 : i0 < L.length) (heq : L[i0].toList = s.toList) :
    Calls Tryz.prog 12 #[v, .string s] w fun e w' => e = .returned (.bool true) ∧ w' = w := by
  obtain ⟨a, cap, rfl, hl, hr⟩ := hv
  unfold maxLen at hl
  obtain ⟨b, off, rfl, hb, hc⟩ := hr (by intro e; rw [e] at hi0; simp at hi0)
  have HC := Lib.hid hc
  have HE := Lib.hid heq
  clear hc hr heq
  go_enter Tryz.func12, Tryz.ntmps12
  go_wp2_with fail
  go_loop [5] (fun i => ∃ j : Nat, j ≤ i0 ∧ i = .int .i64 j) (fun i => i0 - (intOf i).toNat)
  case atStart => exact ⟨0, by omega, by go_num⟩
  case round =>
    obtain ⟨j, hj, rfl⟩ := hrel
    have hlt : j < L.length := by omega
    have hcell := HC.out j hlt
    have i1 : (0 : Int) ≤ (j : Int) := by omega
    have i2 : (j : Int) < (L.length : Int) := by omega
    cases he : L[j].toList == s.toList
    · have hne : j ≠ i0 := by
        intro e
        subst e
        rw [HE.out] at he
        simp at he
      go_wp2_with fail
      go_round
      case rel => exact ⟨j + 1, by omega, by go_num⟩
      case measure => simp [intOf]; omega
    · go_wp2_with fail
      go_ret
      exact ⟨rfl, rfl⟩
end Go.Proofs.YtlnlpljeflfgbaaGreatDoor
