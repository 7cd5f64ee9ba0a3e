/- Package term: Equal. -/
import Derived.Test.YtnobmffgchlijaaGreatDoorCo
namespace Go.Proofs.YtnobmffgchlijaaGreatDoor
open Go.RowKit

set_option maxHeartbeats 1000000 in
theorem equal_any (t t' : Tm) (c0 c1 c2 c3 d0 d1 d2 d3 : Value) (w : World) (ht : IsTm w.heap.size w c0 c1 c2 c3 t) (ht' : IsTm w.heap.size w d0 d1 d2 d3 t') :
    Calls Tryz.prog 21 #[.agg #[c0, c1, c2, c3], .agg #[d0, d1, d2, d3]] w fun e w' => e = .returned (.bool (Tm.cmp t t' == 0)) ∧ Below w.heap.size w w' := by
  have hBe : Below w.heap.size w ((w.alloc (.cells #[c0, c1, c2, c3] 32)).alloc (.cells #[d0, d1, d2, d3] 32)) := ((Below.refl _ w).alloc (Nat.le_refl _) _).alloc (by simp) _
  have HC := Lib.hid (compare_any w.heap.size t t' c0 c1 c2 c3 d0 d1 d2 d3 _ (ht.below hBe) (ht'.below hBe) hBe.size)
  have HB := Lib.hid hBe
  obtain ⟨r, hr⟩ : ∃ r, Tm.cmp t t' = r := ⟨_, rfl⟩
  rw [hr] at HC ⊢
  clear ht ht' hr hBe
  by_cases h0 : r = 0
  all_goals
    first | subst h0 | (have h1 : (r == 0) = false := by simpa using h0)
    go_enter Tryz.func21, Tryz.ntmps21
    go_wp2_with fail
    refine HC.out.mono ?_
    rintro e w' ⟨rfl, hb⟩
    have hb' := HB.out.trans (hb.mono HB.out.size)
    go_wp2_with fail
    go_ret
    first | exact ⟨rfl, hb'⟩ | exact ⟨by rw [h1]; simp, hb'⟩
end Go.Proofs.YtnobmffgchlijaaGreatDoor
