/- The law of names: its walk. -/
import Derived.Test.YtkjoimedalhnoaaGreatDoorRv
import Derived.Test.YtkjoimedalhnoaaGreatDoorAw
namespace Go.Proofs.YtkjoimedalhnoaaGreatDoor
open Go.RowKit

set_option maxHeartbeats 2000000 in
theorem names_any (s : ByteArray) (w : World) (hs : s.size ≤ maxLen) (hgl : 2 < w.heap.size) (htab : Lib.TabIs Tryz.prog w "internal/strconv.uint64pow10" .u64 Lib.pow10Tab) :
    Calls Tryz.prog 4 #[.string s] w fun e w' => e = .returned (.bool true) ∧ Below w.heap.size w w' := by
  have HAW := Lib.hid (awake_any w hgl htab)
  have HS := Lib.hid hs
  unfold maxLen at hs
  clear htab
  by_cases hlong : s.size ≤ 200
  all_goals
    go_enter Tryz.func4, Tryz.ntmps4
    go_wp2_with (first
      | (go_at_call 17; refine (symbol_any _ _ HS.out).mono ?_; rintro e w' ⟨rfl, rfl⟩)
      | (go_at_call 18; refine (rsymbol_any _ _ HS.out).mono ?_; rintro e w' ⟨rfl, rfl⟩)
      | (go_at_call 19; refine (variable_any _ _ HS.out).mono ?_; rintro e w' ⟨rfl, rfl⟩)
      | (go_at_call 20; refine (rvariable_any _ _ HS.out).mono ?_; rintro e w' ⟨rfl, rfl⟩)
      | (go_at_call 15; refine HAW.out.mono ?_; rintro e w' ⟨rfl, hbA⟩))
    go_ret
    exact ⟨rfl, hbA⟩
end Go.Proofs.YtkjoimedalhnoaaGreatDoor
