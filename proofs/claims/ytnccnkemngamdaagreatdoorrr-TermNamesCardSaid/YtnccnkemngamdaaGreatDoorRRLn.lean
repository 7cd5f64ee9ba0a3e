/- The law of names: its walk. -/
import Derived.Test.YtnccnkemngamdaaGreatDoorRRRv
import Derived.Test.YtnccnkemngamdaaGreatDoorRRAw
namespace Go.Proofs.YtnccnkemngamdaaGreatDoorRR
open Go.RowKit

set_option maxHeartbeats 2000000 in
theorem names_any (s : ByteArray) (w : World) (hs : s.size ≤ maxLen) (hgl : 2 < w.heap.size) (htab : Lib.TabIs Tryz.prog w "internal/strconv.uint64pow10" .u64 Lib.pow10Tab) :
    Calls Tryz.prog 4 #[.string s] w fun e w' => e = .returned (.bool true) ∧ Below w.heap.size w w' := by
  have HAW := Lib.hid (awake_any w hgl htab)
  have HS := Lib.hid hs
  unfold maxLen at hs
  clear htab
  by_cases hlong : s.size ≤ 200
  all_goals
    go_enter Tryz.func4, Tryz.ntmps4
    go_wp2_with (first
      | (go_at_call 12; refine (symbol_any _ _ HS.out).mono ?_; rintro e w' ⟨rfl, rfl⟩)
      | (go_at_call 13; refine (rsymbol_any _ _ HS.out).mono ?_; rintro e w' ⟨rfl, rfl⟩)
      | (go_at_call 14; refine (variable_any _ _ HS.out).mono ?_; rintro e w' ⟨rfl, rfl⟩)
      | (go_at_call 15; refine (rvariable_any _ _ HS.out).mono ?_; rintro e w' ⟨rfl, rfl⟩)
      | (go_at_call 10; refine HAW.out.mono ?_; rintro e w' ⟨rfl, hbA⟩))
    go_ret
    exact ⟨rfl, hbA⟩
end Go.Proofs.YtnccnkemngamdaaGreatDoorRR
