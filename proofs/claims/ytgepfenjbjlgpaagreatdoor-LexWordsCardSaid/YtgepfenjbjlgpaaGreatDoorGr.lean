/- Package term: Ground. -/
import Derived.Test.YtgepfenjbjlgpaaGreatDoorDp
namespace Go.Proofs.YtgepfenjbjlgpaaGreatDoor
open Go.RowKit Go.Shelf
attribute [local go_sem] Oper.semAt_some

def Tm.isVar (t : Tm) : Bool := decide (t.kind = 3)
def Tm.groundB (t : Tm) : Bool := (t.nodes 1).all fun x => !x.1.isVar

theorem all_of_pre {n₀ : Nat} {wt : World} {ys : List (NdIn n₀ wt)} {l : List (Tm × Nat)} {p : Tm × Nat → Bool} (h : ys.map NdIn.key = l) (hp : ys.all (fun x => p x.key) = true) : l.all p = true := by
  rw [← h, List.all_map]; exact hp
theorem not_all_of_pre {n₀ : Nat} {wt : World} {ys : List (NdIn n₀ wt)} {l : List (Tm × Nat)} {p : Tm × Nat → Bool} (h : ys.map NdIn.key <+: l) (hp : ys.all (fun x => p x.key) = false) : l.all p = false := by
  obtain ⟨r, rfl⟩ := h
  rw [List.all_append, List.all_map]
  rw [show (p ∘ NdIn.key : NdIn n₀ wt → Bool) = fun x => p x.key from rfl, hp]; rfl


end Go.Proofs.YtgepfenjbjlgpaaGreatDoor
