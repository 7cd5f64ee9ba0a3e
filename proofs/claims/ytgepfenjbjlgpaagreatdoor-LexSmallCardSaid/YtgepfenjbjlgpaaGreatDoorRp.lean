/- The slots behind a region that draws its order, one by one, each with what it holds. -/
import Derived.Test.YtgepfenjbjlgpaaGreatDoorRt
namespace Go.Proofs.YtgepfenjbjlgpaaGreatDoor
open Go.RowKit

def AllFrom (a : Array Value) : Nat → List Value → Prop
  | _, [] => True
  | i, v :: r => a.getD i undef = v ∧ AllFrom a (i + 1) r
theorem allFrom_at {a : Array Value} : ∀ (l : List Value) (i : Nat), AllFrom a i l → ∀ j (h : j < l.length), a.getD (i + j) undef = l[j]
  | [], _, _, j, h => by simp at h
  | v :: r, i, hl, 0, _ => hl.1
  | v :: r, i, hl, j + 1, h => by
    have := allFrom_at r (i + 1) hl.2 j (by simpa using h)
    rw [show i + (j + 1) = i + 1 + j by omega]
    simpa using this
/-- A frame, written out. -/
theorem slots_lit {a : Array Value} (l : List Value) (hs : a.size = l.length) (h : AllFrom a 0 l) : a = l.toArray := by
  apply Array.ext
  · simpa using hs
  · intro i h1 h2
    have := allFrom_at l 0 h i (by omega)
    rw [Nat.zero_add] at this
    simpa [Array.getD_eq_getD_getElem?, h1] using this
end Go.Proofs.YtgepfenjbjlgpaaGreatDoor
