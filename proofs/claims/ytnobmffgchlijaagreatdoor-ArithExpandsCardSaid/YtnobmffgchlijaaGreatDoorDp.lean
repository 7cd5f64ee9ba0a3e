/- Package term: Depth. -/
import Derived.Test.YtnobmffgchlijaaGreatDoorIt
namespace Go.Proofs.YtnobmffgchlijaaGreatDoor
open Go.RowKit Go.Shelf
attribute [local go_sem] Oper.semAt_some

/-- A block of cells stays what it is under the loop's book-keeping. -/
theorem cells_own {β : Type} (B : Nat) (t : TypeId) (f : β → Array Value) : Own (fun s W => W.heap[B]? = some (.cells (f s) t (0, 0))) := fun s X Y row hs hg hrow =>
  (hg.block B (Array.getElem?_eq_some_iff.1 hs).1 (fun e' => by obtain ⟨o, ho, hc⟩ := hrow B e'.symm; rw [show X.heap[B]? = _ from hs] at ho; cases ho; cases hc)).trans hs

def maxLv {n₀ : Nat} {wt : World} (pre : List (NdIn n₀ wt)) : Nat := (pre.map fun x => x.1.l).foldl max 0

mutual
theorem Tm.levels (l : Nat) (hl : 1 ≤ l) : ∀ (t : Tm) (m : Nat), ((t.nodes l).map (·.2)).foldl max m = max m (l - 1 + t.depth)
  | .mk k n s args, m => by
    simp only [Tm.nodes, List.map_cons, List.foldl_cons, Tm.depth]
    rw [Tm.levelsL (l + 1) (by omega) args (max m l) (by omega)]
    omega
theorem Tm.levelsL (l : Nat) (hl : 1 ≤ l) : ∀ (ts : List Tm) (m : Nat), l - 1 ≤ m → ((Tm.nodesL l ts).map (·.2)).foldl max m = max m (l - 1 + Tm.depthL ts)
  | [], m, h => by simp only [Tm.nodesL, List.map_nil, List.foldl_nil, Tm.depthL]; omega
  | t :: ts, m, h => by
    simp only [Tm.nodesL, List.map_append, List.foldl_append, Tm.depthL]
    rw [Tm.levels l hl t m, Tm.levelsL l hl ts _ (by omega)]
    omega
end
theorem maxLv_all {n₀ : Nat} {wt : World} {ys : List (NdIn n₀ wt)} {t : Tm} (h : ys.map NdIn.key = t.nodes 1) : maxLv ys = t.depth := by
  have e : (ys.map fun x => x.1.l) = (t.nodes 1).map (·.2) := by rw [← h, List.map_map]; rfl
  unfold maxLv
  rw [e, Tm.levels 1 (by omega)]
  have : 1 ≤ t.depth := by cases t; simp only [Tm.depth]; omega
  omega


end Go.Proofs.YtnobmffgchlijaaGreatDoor
