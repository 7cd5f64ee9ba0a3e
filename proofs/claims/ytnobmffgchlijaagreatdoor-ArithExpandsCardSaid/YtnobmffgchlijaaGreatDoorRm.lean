/- The slots behind a region that draws its order: what was written told by the region's slots, the rest as it was. -/
import Derived.Test.YtnobmffgchlijaaGreatDoorRt
namespace Go.Proofs.YtnobmffgchlijaaGreatDoor
open Go.RowKit

def mergeFrom (a : Array Value) : Nat → List Bool → List Value → List Value
  | i, false :: m, v :: r => v :: mergeFrom a (i + 1) m r
  | i, true :: m, _ :: r => a.getD i undef :: mergeFrom a (i + 1) m r
  | _, _, _ => []
theorem merge_length (a : Array Value) : ∀ (m : List Bool) (l : List Value) (i : Nat), m.length = l.length → (mergeFrom a i m l).length = l.length
  | [], [], _, _ => rfl
  | false :: m, v :: r, i, h => by simp only [mergeFrom, List.length_cons]; rw [merge_length a m r _ (by simpa using h)]
  | true :: m, v :: r, i, h => by simp only [mergeFrom, List.length_cons]; rw [merge_length a m r _ (by simpa using h)]
  | [], _ :: _, _, h => by simp at h
  | _ :: _, [], _, h => by simp at h
theorem merge_at (a : Array Value) : ∀ (m : List Bool) (l : List Value) (i : Nat), m.length = l.length → (∀ j, m[j]? = some false → l[j]? = some (a.getD (i + j) undef)) → ∀ j, j < l.length → (mergeFrom a i m l)[j]? = some (a.getD (i + j) undef)
  | [], [], _, _, _, j, hj => by simp at hj
  | false :: m, v :: r, i, h, ho, j, hj => by
    cases j with
    | zero =>
      have := ho 0 rfl
      simpa [mergeFrom] using this
    | succ j =>
      have := merge_at a m r (i + 1) (by simpa using h) (fun q hq => by
        have := ho (q + 1) (by simpa using hq)
        rw [show i + (q + 1) = i + 1 + q by omega] at this
        simpa using this) j (by simpa using hj)
      rw [show i + (j + 1) = i + 1 + j by omega]
      simpa [mergeFrom] using this
  | true :: m, v :: r, i, h, ho, j, hj => by
    cases j with
    | zero => simp [mergeFrom]
    | succ j =>
      have := merge_at a m r (i + 1) (by simpa using h) (fun q hq => by
        have := ho (q + 1) (by simpa using hq)
        rw [show i + (q + 1) = i + 1 + q by omega] at this
        simpa using this) j (by simpa using hj)
      rw [show i + (j + 1) = i + 1 + j by omega]
      simpa [mergeFrom] using this
  | [], _ :: _, _, h, _, _, _ => by simp at h
  | _ :: _, [], _, h, _, _, _ => by simp at h
/-- The frame behind a drawn region, merged. -/
theorem slots_merge {ops : Array Oper} {a : Array Value} {l : List Value} (m : List Bool) (n : Nat) (hs : a.size = l.toArray.size) (hn : l.length = n) (hm : (List.range n).map (fun t => !(noDst ops t)) = m)
    (ho : ∀ t, noDst ops t = true → a.getD t undef = l.toArray.getD t undef) : a = (mergeFrom a 0 m l).toArray := by
  have hml : m.length = l.length := by rw [← hm, hn]; simp
  apply Array.ext
  · have h1 : (mergeFrom a 0 m l).toArray.size = l.length := by simp [merge_length a m l 0 hml]
    have h2 : a.size = l.length := by simpa using hs
    omega
  · intro i h1 h2
    have hi : i < l.length := by simpa [merge_length a m l 0 hml] using h2
    have := merge_at a m l 0 hml (fun j hj => by
      rw [← hm, List.getElem?_map] at hj
      have hjn : j < n := by
        apply Decidable.byContradiction; intro hc
        rw [List.getElem?_eq_none (by simpa using hc)] at hj; cases hj
      rw [List.getElem?_range hjn] at hj
      simp only [Option.map_some, Option.some.injEq, Bool.not_eq_false'] at hj
      have h3 := ho j hj
      rw [Nat.zero_add, h3]
      have : j < l.length := by omega
      simp [Array.getD_eq_getD_getElem?, this]) i hi
    rw [Nat.zero_add] at this
    have h4 := List.getElem?_eq_getElem (l := mergeFrom a 0 m l) (i := i) (by simpa using h2)
    rw [h4] at this
    have h5 : (mergeFrom a 0 m l)[i] = a.getD i undef := by simpa using this
    simp only [List.getElem_toArray]
    rw [h5]
    simp [Array.getD_eq_getD_getElem?, h1]
end Go.Proofs.YtnobmffgchlijaaGreatDoor
