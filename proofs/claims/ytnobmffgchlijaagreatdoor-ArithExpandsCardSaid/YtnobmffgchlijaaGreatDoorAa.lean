/- Arithmetic and expansion of terms as plain mathematics. -/
import Derived.Test.YtnobmffgchlijaaGreatDoorTm
import Derived.IntWalk
namespace Go.Proofs.YtnobmffgchlijaaGreatDoor
open Go.RowKit

/-- The operations. -/
inductive Ar where
  | neg | add | sub | mul | quo | rem
  deriving DecidableEq

def arOf (s : List UInt8) (n : Nat) : Option Ar :=
  if s = [45] ∧ n = 1 then some .neg else if s = [43] ∧ n = 2 then some .add else if s = [45] ∧ n = 2 then some .sub
  else if s = [42] ∧ n = 2 then some .mul else if s = [47] ∧ n = 2 then some .quo else if s = [92] ∧ n = 2 then some .rem else none
def Ar.arity : Ar → Nat
  | .neg => 1
  | _ => 2
def Ar.run : Ar → Int → Int → Option Int
  | .neg, a, _ => some (-a)
  | .add, a, b => some (a + b)
  | .sub, a, b => some (a - b)
  | .mul, a, b => some (a * b)
  | .quo, a, b => if b = 0 then none else some (a.tdiv b)
  | .rem, a, b => if b = 0 then none else some (a.tmod b)
def outB (n : Int) : Bool := decide (n < -2147483647) || decide (2147483647 < n)
def applyI (o : Ar) (l : List Int) : Option Int :=
  if l.any outB then none else match o.run (l.getD 0 0) (l.getD 1 0) with
    | none => none
    | some n => if outB n then none else some n
def calcI (s : List UInt8) (l : List Int) : Option Int := match arOf s l.length with
  | none => none
  | some o => applyI o l

theorem arOf_arity {s : List UInt8} {n : Nat} {o : Ar} (h : arOf s n = some o) : n = o.arity := by
  unfold arOf at h
  repeat' split at h
  all_goals first | (cases h; rename_i g; exact g.2) | cases h
theorem outB_false {n : Int} : outB n = false ↔ -2147483647 ≤ n ∧ n ≤ 2147483647 := by
  unfold outB; simp [Int.not_lt]
theorem outB_true {n : Int} : outB n = true ↔ n < -2147483647 ∨ 2147483647 < n := by
  unfold outB; simp

/-- All choices of one item from each list, the first list's first. -/
def combos {α : Type} : List (List α) → List (List α)
  | [] => [[]]
  | l :: ls => l.flatMap fun x => (combos ls).map (x :: ·)

theorem combos_nil_of_mem {α : Type} : ∀ {ls : List (List α)}, [] ∈ ls → combos ls = []
  | l :: ls, h => by
    rcases List.mem_cons.1 h with h | h
    · subst h; rfl
    · simp [combos, combos_nil_of_mem h]
theorem combos_length {α : Type} : ∀ (ls : List (List α)) (c : List α), c ∈ combos ls → c.length = ls.length
  | [], c, h => by simp [combos] at h; simp [h]
  | l :: ls, c, h => by
    simp only [combos, List.mem_flatMap, List.mem_map] at h
    obtain ⟨x, _, c', hc, rfl⟩ := h
    simp [combos_length ls c' hc]
theorem combos_map {α β : Type} (f : α → β) : ∀ (ls : List (List α)), combos (ls.map (List.map f)) = (combos ls).map (List.map f)
  | [] => rfl
  | l :: ls => by
    simp only [List.map_cons, combos, combos_map f ls, List.flatMap_map, List.map_flatMap, List.map_map]
    rfl
theorem combos_mem {α : Type} : ∀ (ls : List (List α)) (c : List α), c ∈ combos ls ↔ c.length = ls.length ∧ ∀ i (h : i < c.length) (h' : i < ls.length), c[i] ∈ ls[i]
  | [], c => by
    simp only [combos, List.mem_singleton, List.length_nil]
    constructor
    · rintro rfl; exact ⟨rfl, fun i h => absurd h (by simp)⟩
    · rintro ⟨h, _⟩; exact List.length_eq_zero_iff.1 h
  | l :: ls, c => by
    simp only [combos, List.mem_flatMap, List.mem_map]
    constructor
    · rintro ⟨x, hx, c', hc, rfl⟩
      have := (combos_mem ls c').1 hc
      refine ⟨by simp [this.1], fun i h h' => ?_⟩
      cases i with
      | zero => exact hx
      | succ i => exact this.2 i (by simpa using h) (by simpa using h')
    · rintro ⟨hl, hm⟩
      cases c with
      | nil => simp at hl
      | cons x c' =>
        refine ⟨x, hm 0 (by simp) (by simp), c', (combos_mem ls c').2 ⟨by simpa using hl, fun i h h' => hm (i + 1) (by simpa using h) (by simpa using h')⟩, rfl⟩

/-- The numbers among the values. -/
def intsOf (ts : List Tm) : List Int := ts.filterMap fun t => if t.kind = 1 then some t.num else none

/-- The distinct results, in order. -/
def resultsI (o : Ar) (ls : List (List Int)) : List Int := ((combos ls).filterMap (applyI o)).eraseDups
def sortI (l : List Int) : List Int := l.mergeSort (fun x y => decide (x ≤ y))
def numT (n : Int) : Tm := .mk 1 n ⟨#[]⟩ []
def spanL (a b : Int) : List Int := (List.range (b - a + 1).toNat).map fun (i : Nat) => a + (i : Int)

mutual
/-- The expansions of a term; none if there are too many of it or of a part. -/
def Tm.exp : Tm → Option (List Tm)
  | .mk k n s args =>
    if k = 4 then (Tm.expL args).bind fun ls => if (combos ls).length ≤ 1000 then some ((combos ls).map fun c => .mk 4 0 s c) else none
    else if k = 5 then (Tm.expL args).bind fun ls => match arOf s.toList args.length with
      | none => none
      | some o => if (resultsI o (ls.map intsOf)).length ≤ 1000 then some ((sortI (resultsI o (ls.map intsOf))).map numT) else none
    else if k = 6 then (Tm.expL args).bind fun ls => match (intsOf (ls.getD 0 [])).head?, (intsOf (ls.getD 1 [])).getLast? with
      | some a, some b => if b - a + 1 ≤ 1000 then some ((spanL a b).map numT) else none
      | _, _ => some []
    else some [.mk k n s []]
def Tm.expL : List Tm → Option (List (List Tm))
  | [] => some []
  | t :: ts => t.exp.bind fun l => (Tm.expL ts).bind fun ls => some (l :: ls)
end

theorem Tm.expL_some : ∀ {ts : List Tm} {ls : List (List Tm)}, Tm.expL ts = some ls → ls.length = ts.length ∧ ∀ i (h : i < ts.length) (h' : i < ls.length), ts[i].exp = some ls[i]
  | [], ls, h => by simp only [Tm.expL, Option.some.injEq] at h; subst h; exact ⟨rfl, fun i h => absurd h (by simp)⟩
  | t :: ts, ls, h => by
    simp only [Tm.expL, Option.bind_eq_some_iff, Option.some.injEq] at h
    obtain ⟨l, hl, ls', hls, rfl⟩ := h
    have := Tm.expL_some hls
    refine ⟨by simp [this.1], fun i h h' => ?_⟩
    cases i with
    | zero => exact hl
    | succ i => exact this.2 i (by simpa using h) (by simpa using h')
theorem Tm.expL_take {ts : List Tm} {j : Nat} (hj : j < ts.length) : Tm.expL (ts.take (j + 1)) = (Tm.expL (ts.take j)).bind fun ls => ts[j].exp.bind fun l => some (ls ++ [l]) := by
  induction ts generalizing j with
  | nil => simp at hj
  | cons t ts ih =>
    cases j with
    | zero =>
      simp only [List.take_succ_cons, List.take_zero, Tm.expL, List.getElem_cons_zero]
      cases t.exp <;> rfl
    | succ j =>
      simp only [List.take_succ_cons, Tm.expL, ih (by simpa using hj), List.getElem_cons_succ]
      cases t.exp with
      | none => rfl
      | some l =>
        simp only [Option.bind_some]
        cases Tm.expL (ts.take j) with
        | none => rfl
        | some ls =>
          simp only [Option.bind_some]
          cases (ts[j]'(by simpa using hj)).exp <;> rfl
theorem Tm.expL_none_take : ∀ {ts : List Tm} (j : Nat), Tm.expL (ts.take j) = none → Tm.expL ts = none
  | [], j, h => by simpa using h
  | t :: ts, 0, h => by simp [Tm.expL] at h
  | t :: ts, j + 1, h => by
    simp only [List.take_succ_cons, Tm.expL] at h ⊢
    cases ht : t.exp with
    | none => rfl
    | some l =>
      rw [ht] at h
      simp only [Option.bind_some] at h ⊢
      cases hl : Tm.expL (ts.take j) with
      | none => rw [Tm.expL_none_take j hl]; rfl
      | some ls => rw [hl] at h; simp at h

theorem Tm.exp_fun {n : Int} {s : ByteArray} {args : List Tm} : Tm.exp (.mk 4 n s args) = (Tm.expL args).bind fun ls => if (combos ls).length ≤ 1000 then some ((combos ls).map fun c => .mk 4 0 s c) else none := by
  rw [Tm.exp]; simp
theorem Tm.exp_op {n : Int} {s : ByteArray} {args : List Tm} : Tm.exp (.mk 5 n s args) = (Tm.expL args).bind fun ls => match arOf s.toList args.length with
      | none => none
      | some o => if (resultsI o (ls.map intsOf)).length ≤ 1000 then some ((sortI (resultsI o (ls.map intsOf))).map numT) else none := by
  rw [Tm.exp]; simp
theorem Tm.exp_span {n : Int} {s : ByteArray} {args : List Tm} : Tm.exp (.mk 6 n s args) = (Tm.expL args).bind fun ls => match (intsOf (ls.getD 0 [])).head?, (intsOf (ls.getD 1 [])).getLast? with
      | some a, some b => if b - a + 1 ≤ 1000 then some ((spanL a b).map numT) else none
      | _, _ => some [] := by
  rw [Tm.exp]; simp
theorem Tm.exp_leaf {k n : Int} {s : ByteArray} {args : List Tm} (h4 : k ≠ 4) (h5 : k ≠ 5) (h6 : k ≠ 6) : Tm.exp (.mk k n s args) = some [.mk k n s []] := by
  rw [Tm.exp]; simp [h4, h5, h6]

theorem nodup_eraseDups (l : List Int) : l.eraseDups.Nodup := by
  induction h : l.length using Nat.strongRecOn generalizing l with
  | _ n ih =>
    cases l with
    | nil => simp
    | cons a l =>
      rw [List.eraseDups_cons, List.nodup_cons]
      refine ⟨?_, ih _ (by subst h; simpa using Nat.lt_succ_of_le (List.length_filter_le _ _)) _ rfl⟩
      rw [List.mem_eraseDups]
      simp
theorem resultsI_nodup (o : Ar) (ls : List (List Int)) : (resultsI o ls).Nodup := nodup_eraseDups _
theorem resultsI_mem {o : Ar} {ls : List (List Int)} {n : Int} : n ∈ resultsI o ls ↔ ∃ c ∈ combos ls, applyI o c = some n := by
  unfold resultsI; rw [List.mem_eraseDups, List.mem_filterMap]

theorem applyI_range {o : Ar} {l : List Int} {n : Int} (h : applyI o l = some n) : -2147483647 ≤ n ∧ n ≤ 2147483647 := by
  unfold applyI at h
  split at h
  · cases h
  · split at h
    · cases h
    · split at h
      · cases h
      · rename_i hn
        cases h
        exact outB_false.1 (by simpa using hn)
end Go.Proofs.YtnobmffgchlijaaGreatDoor
