/- The laws of match: what MatchOrder's walk takes from elsewhere. -/
import Derived.Test.YtlmdhlckgbgfhaaGreatDoorZQf
set_option maxRecDepth 100000
set_option maxHeartbeats 400000000
namespace Go.Proofs.YtlmdhlckgbgfhaaGreatDoor
open Go.RowKit Go.Shelf
attribute [local go_sem] Oper.semAt_some

theorem BdV.names {w : World} {v : Value} {b : Bd} (h : BdV w v b) : b.length ≤ maxLen ∧ ∀ x ∈ b, x.1.size ≤ maxLen := by
 obtain ⟨a, cap, rfl, h1, h2, hr⟩ := h
 refine ⟨Nat.le_trans h1 h2, fun x hx => ?_⟩
 obtain ⟨g, off, _, _, hi⟩ := hr (by intro e; rw [e] at hx; cases hx)
 obtain ⟨i, hi2, rfl⟩ := List.mem_iff_getElem.1 hx
 exact (hi.at i hi2).1
def pickI (x m : Int) : Int := if x.tmod m < 0 then x.tmod m + m else x.tmod m
theorem pickI_in (x : Int) {m : Int} (hm : 1 ≤ m) : 0 ≤ pickI x m ∧ pickI x m < m := by
 have hr := Int.natAbs_tmod x m
 have hlt : x.natAbs % m.natAbs < m.natAbs := Nat.mod_lt _ (by omega)
 unfold pickI
 split <;> omega
theorem pick_any (x m : Int) (hm : 1 ≤ m ∧ m ≤ 1000) (w : World) : Calls Tryz.prog 11 #[.int .i64 x, .int .i64 m] w fun e w' => e = .returned (.int .i64 (pickI x m)) ∧ w = w' := by
 have h1 : ¬ m < 1 := by omega
 have h0 : (m == 0) = false := by
   have : m ≠ 0 := by omega
   simpa using this
 have h0' : ¬ m = 0 := by omega
 have hr := Int.natAbs_tmod x m
 have hlt : x.natAbs % m.natAbs < m.natAbs := Nat.mod_lt _ (by omega)
 have HP := Hi (show pickI x m = if x.tmod m < 0 then x.tmod m + m else x.tmod m from rfl)
 obtain ⟨r, hrq⟩ : ∃ r, x.tmod m = r := ⟨_, rfl⟩
 rw [hrq] at hr HP
 have w1 : IntKind.i64.wrap r = r := IntWalk.i64_in _ (by omega)
 have w2 : IntKind.i64.wrap (r + m) = r + m := IntWalk.i64_in _ (by omega)
 by_cases hneg : r < 0
 · rw [if_pos hneg] at HP
   clear hr hlt
   go_enter Tryz.func11, Tryz.ntmps11
   go_wp2
   all_goals first | (exfalso; omega) | (go_ret; exact ⟨by rw [HP.out]; rfl, rfl⟩)
 · rw [if_neg hneg] at HP
   clear hr hlt
   go_enter Tryz.func11, Tryz.ntmps11
   go_wp2
   all_goals first | (exfalso; omega) | (go_ret; exact ⟨by rw [HP.out]; rfl, rfl⟩)
theorem two {w w' : World} {g : Nat} {c0 c1 : Value} {ty : TypeId} {z : Nat × Nat} (hb : w'.heap[g]? = w.heap[g]?) (h : w.heap[g]? = some (.cells #[c0, c1] ty z)) : w'.cell? ⟨g, 0, none⟩ = some c0 ∧ w'.cell? ⟨g, 1, none⟩ = some c1 :=
 have hq := hb.trans h
 ⟨cells_at hq 0 _ rfl, cells_at hq 1 _ rfl⟩
theorem match_post {r : Option Bd} {w w' : World} {e : Ending} (h : MatchPost r w e w') : ∃ v', e = .returned (.tuple #[v', .bool r.isSome]) ∧ Below w.heap.size w w' ∧ BdV w' v' (r.getD []) := by
 obtain ⟨hb, h⟩ := h
 cases r with
 | none => exact ⟨_, h, hb, ⟨none, 0, rfl, Nat.zero_le _, Nat.zero_le _, fun e => absurd rfl e⟩⟩
 | some c =>
   obtain ⟨v', rfl, hv⟩ := h
   exact ⟨v', rfl, hb, hv⟩
theorem countL_app : ∀ a b : List Tm, Tm.countL (a ++ b) = Tm.countL a + Tm.countL b
 | [], b => by simp [Tm.countL]
 | t :: a, b => by simp only [List.cons_append, Tm.countL, countL_app a b]; omega
end Go.Proofs.YtlmdhlckgbgfhaaGreatDoor
