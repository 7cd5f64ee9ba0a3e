/- Terms: counts, rows that stay, small slices: what the law of parts takes of the others' texts. -/
import Derived.Test.YtikofhldihimaaaGreatDoorRt
import Derived.Test.YtikofhldihimaaaGreatDoorAw
import Derived.Test.YtikofhldihimaaaGreatDoorOr
import Derived.Test.YtikofhldihimaaaGreatDoorSm
namespace Go.Proofs.YtikofhldihimaaaGreatDoor
open Go.RowKit

theorem Tm.count_mem : ∀ {ts : List Tm} {t : Tm}, t ∈ ts → t.count ≤ Tm.countL ts
  | a :: ts, t, h => by
    simp only [Tm.countL]
    rcases List.mem_cons.1 h with rfl | h
    · omega
    · have := Tm.count_mem h; omega
theorem Tm.length_le_count : ∀ ts : List Tm, ts.length ≤ Tm.countL ts
  | [] => by simp [Tm.countL]
  | t :: ts => by
    have h1 := Tm.length_le_count ts
    have h2 : 1 ≤ t.count := by cases t; simp only [Tm.count]; omega
    simp only [Tm.countL, List.length_cons]; omega

theorem own_grow {w w' : World} {base : Nat} {e : TypeId} {size : Nat} {v : Value} {n : Nat} {xs : List Value} (h : w.ownsRow base e size v n xs) (hb : Below w.heap.size w w') : w'.ownsRow base e size v n xs :=
  h.kept (row := none) ⟨hb.os, hb.tape, hb.output, hb.size, fun k hk _ => hb.block k hk⟩ (by cases h1 : v.ownBlock <;> simp)
theorem small_sl (us : List Tm) (v : Value) (w : World) (hv : SlV w v us) : Calls Tryz.prog 5 #[v] w fun e w' => e = .returned (.bool (decide (sizeL us 0 300 ≤ 300))) ∧ Below w.heap.size w w' := by
  obtain ⟨a, cap, rfl, hl, hr⟩ := hv
  exact small_any us a cap w hl hr

end Go.Proofs.YtikofhldihimaaaGreatDoor
