/- 'ostlerlaw02.ArithExpands': its mathematics, the contract of plain, its walk and its card: whatever the argument, the law returns true. -/
import Derived.Test.YtnobmffgchlijaaGreatDoorBn
import Derived.Test.YtnobmffgchlijaaGreatDoorAz
import Derived.Test.YtnobmffgchlijaaGreatDoorRt
import Derived.Test.YtnobmffgchlijaaGreatDoorRm
import Derived.IntWalk
import Derived.ArgAppend
import Derived.Maps.AppendAt
import Derived.Test.YtnobmffgchlijaaGreatDoorBs
import Derived.Test.YtnobmffgchlijaaGreatDoorRi
import Derived.Test.YtnobmffgchlijaaGreatDoorCards
import Derived.Test.YtnobmffgchlijaaGreatDoorTie
import Derived.Test.YtnobmffgchlijaaGreatDoorFa
import Derived.Test.YtnobmffgchlijaaGreatDoorOp
import Derived.Test.YtnobmffgchlijaaGreatDoorAy
namespace Go.Proofs.YtnobmffgchlijaaGreatDoor
section
open Go.RowKit

/-- Before it, in the order of terms. -/
def Lt (a b : Tm) : Prop := Tm.cmp a b = -1
theorem strCmp_self (s : ByteArray) : strCmp s s = 0 := by rw [strCmp_eq]; exact byC_zero.2 rfl
theorem cint_self (n : Int) : Lib.compareInt n n = 0 := int_zero.2 rfl
mutual
theorem cmp_same : ∀ t : Tm, Tm.cmp t t = 0
  | .mk k n s us => by
    simp only [Tm.cmp, cint_self, strCmp_self, cmpL_same us]
    simp [orI]
theorem cmpL_same : ∀ ts : List Tm, Tm.cmpL ts ts = 0
  | [] => rfl
  | t :: ts => by simp only [Tm.cmpL, cmp_same t, cmpL_same ts]; simp
end
theorem cint_lt {a b : Int} (h : a < b) : Lib.compareInt a b = -1 := by unfold Lib.compareInt; rw [if_pos h]
theorem num_lt {a b : Int} (h : a < b) : Lt (numT a) (numT b) := by
  unfold Lt numT
  simp only [Tm.cmp, cint_self]
  rw [if_neg (by omega), if_pos ⟨trivial, by omega⟩, cint_lt h]
theorem fun_lt {s : ByteArray} {c d : List Tm} (hl : c.length = d.length) (h : Tm.cmpL c d = -1) : Lt (.mk 4 0 s c) (.mk 4 0 s d) := by
  unfold Lt
  simp only [Tm.cmp, cint_self, strCmp_self, hl, h]
  simp [orI]
theorem combos_sorted : ∀ ls : List (List Tm), (∀ l ∈ ls, l.Pairwise Lt) → (combos ls).Pairwise fun c d => Tm.cmpL c d = -1
  | [], _ => by simp [combos]
  | l :: ls, h => by
    simp only [combos]
    rw [List.pairwise_flatMap]
    have ih := combos_sorted ls fun x hx => h x (List.mem_cons_of_mem _ hx)
    constructor
    · intro x _
      rw [List.pairwise_map]
      refine ih.imp ?_
      intro c d hcd
      simp only [Tm.cmpL, cmp_same, hcd]
      simp
    · refine (h l (by simp)).imp ?_
      intro x y hxy c hc d hd
      obtain ⟨c', _, rfl⟩ := List.mem_map.1 hc
      obtain ⟨d', _, rfl⟩ := List.mem_map.1 hd
      unfold Lt at hxy
      simp only [Tm.cmpL, hxy]
      simp
theorem nums_inc {l : List Int} (h : l.Pairwise (· < ·)) : (l.map numT).Pairwise Lt := by
  rw [List.pairwise_map]
  exact h.imp fun hab => num_lt hab
theorem sortI_inc {l : List Int} (h : l.Nodup) : (sortI l).Pairwise (· < ·) := by
  have h1 : (sortI l).Pairwise fun a b => decide (a ≤ b) = true := List.pairwise_mergeSort (fun a b c h1 h2 => by simp at *; omega) (fun a b => by simp; omega) l
  have h2 : (sortI l).Nodup := (List.mergeSort_perm l _).nodup_iff.2 h
  refine (h1.and h2).imp ?_
  rintro a b ⟨h3, h4⟩
  have h5 : a ≤ b := by simpa using h3
  have h6 : a ≠ b := h4
  omega
theorem spanL_inc (a b : Int) : (spanL a b).Pairwise (· < ·) := by
  unfold spanL
  rw [List.pairwise_map]
  exact List.pairwise_lt_range.imp fun h => by omega

theorem exp_sorted (t : Tm) : ∀ l, t.exp = some l → l.Pairwise Lt := by
  induction t using Tm.ind with
  | h k n s args ih =>
    intro l hx
    simp only [Tm.exp] at hx
    by_cases h4 : k = 4
    · subst h4
      simp only [if_true, Option.bind_eq_some_iff] at hx
      obtain ⟨ls, hls, hx⟩ := hx
      split at hx
      · cases hx
        rw [List.pairwise_map]
        have hs := Tm.expL_some hls
        have hp := combos_sorted ls fun l hl => by
          obtain ⟨i, hi, rfl⟩ := List.mem_iff_getElem.1 hl
          exact ih args[i] (List.getElem_mem (by omega)) _ (hs.2 i (by omega) hi)
        refine List.Pairwise.imp_of_mem ?_ hp
        intro c d hc hd hcd
        exact fun_lt (by rw [combos_length ls c hc, combos_length ls d hd]) hcd
      · cases hx
    · rw [if_neg h4] at hx
      by_cases h5 : k = 5
      · subst h5
        simp only [if_true, Option.bind_eq_some_iff] at hx
        obtain ⟨ls, _, hx⟩ := hx
        split at hx
        · cases hx
        · split at hx
          · cases hx
            exact nums_inc (sortI_inc (resultsI_nodup _ _))
          · cases hx
      · rw [if_neg h5] at hx
        by_cases h6 : k = 6
        · subst h6
          simp only [if_true, Option.bind_eq_some_iff] at hx
          obtain ⟨ls, _, hx⟩ := hx
          split at hx
          · split at hx
            · cases hx
              exact nums_inc (spanL_inc _ _)
            · cases hx
          · cases hx
            exact List.Pairwise.nil
        · rw [if_neg h6] at hx
          cases hx
          exact List.pairwise_singleton _ _

/-- The integers of an interval whose ends a row's values are. -/
def rowSpan (c : List Tm) : Option (Int × Int) := match c with
  | x :: y :: _ => (match evalT x, evalT y with
    | some a, some b => if a.kind = 1 ∧ b.kind = 1 then some (a.num, b.num) else none
    | _, _ => none)
  | _ => none
/-- The rows of an interval, one after the other. -/
def spanRows : List (List Tm) → List Tm → Option (List Tm)
  | [], out => some out
  | c :: cs, out => match rowSpan c with
    | none => spanRows cs out
    | some (a, b) => if 300 < b - a ∨ 300 < out.length then none else spanRows cs (out ++ (spanL a b).map numT)
mutual
/-- What plain returns, where it reports true. -/
def plainM : Tm → Option (List Tm)
  | .mk k n s args => (plainR args [[]]).bind fun rows => (if k = 6 then spanRows rows [] else some (rows.map fun c => .mk k n s c)).bind fun out => if out.length ≤ 300 then some out else none
def plainR : List Tm → List (List Tm) → Option (List (List Tm))
  | [], rows => some rows
  | t :: ts, rows => (plainM t).bind fun l => if 300 < rows.length * l.length then none else plainR ts (rows.flatMap fun r => l.map fun x => r ++ [x])
end
theorem plainR_some : ∀ {ts : List Tm} {rows R : List (List Tm)}, plainR ts rows = some R → ∃ ls : List (List Tm), ls.length = ts.length ∧ (∀ i (h : i < ts.length) (h' : i < ls.length), plainM ts[i] = some ls[i]) ∧ R = rows.flatMap fun r => (combos ls).map fun c => r ++ c
  | [], rows, R, h => by
    simp only [plainR, Option.some.injEq] at h
    subst h
    refine ⟨[], rfl, fun i h => absurd h (by simp), ?_⟩
    simp [combos, List.flatMap_singleton']
  | t :: ts, rows, R, h => by
    simp only [plainR, Option.bind_eq_some_iff] at h
    obtain ⟨l, hl, h⟩ := h
    split at h
    · cases h
    · obtain ⟨ls, h1, h2, rfl⟩ := plainR_some h
      refine ⟨l :: ls, by simp [h1], fun i hi hi' => ?_, ?_⟩
      · cases i with
        | zero => exact hl
        | succ i => exact h2 i (by simpa using hi) (by simpa using hi')
      · simp only [combos, List.flatMap_assoc, List.flatMap_map, List.map_flatMap, List.map_map]
        congr 1
        funext r
        congr 1
        funext x
        simp [Function.comp_def]
theorem plain_rows {ts : List Tm} {R : List (List Tm)} (h : plainR ts [[]] = some R) : ∃ ls : List (List Tm), ls.length = ts.length ∧ (∀ i (h : i < ts.length) (h' : i < ls.length), plainM ts[i] = some ls[i]) ∧ R = combos ls := by
  obtain ⟨ls, h1, h2, rfl⟩ := plainR_some h
  exact ⟨ls, h1, h2, by simp⟩
/-- Choices of values are the values of choices. -/
theorem combos_ev : ∀ {es ls : List (List Tm)}, es.length = ls.length → (∀ i (h : i < es.length) (h' : i < ls.length) v, v ∈ es[i] ↔ ∃ x ∈ ls[i], x.ev = some v) → ∀ c, c ∈ combos es ↔ ∃ d ∈ combos ls, Tm.evL d = some c
  | [], [], _, _, c => by
    simp only [combos, List.mem_singleton]
    constructor
    · rintro rfl; exact ⟨[], rfl, rfl⟩
    · rintro ⟨d, rfl, hd⟩; simpa [Tm.evL] using hd.symm
  | [], _ :: _, h, _, _ => by simp at h
  | _ :: _, [], h, _, _ => by simp at h
  | e :: es, l :: ls, h, hm, c => by
    have ih := combos_ev (es := es) (ls := ls) (by simpa using h) fun i hi hi' => hm (i + 1) (by simpa using hi) (by simpa using hi')
    have h0 := hm 0 (by simp) (by simp)
    simp only [List.getElem_cons_zero] at h0
    simp only [combos, List.mem_flatMap, List.mem_map]
    constructor
    · rintro ⟨v, hv, c', hc', rfl⟩
      obtain ⟨x, hx, hxv⟩ := (h0 v).1 hv
      obtain ⟨d, hd, hdc⟩ := (ih c').1 hc'
      exact ⟨x :: d, ⟨x, hx, d, hd, rfl⟩, by simp only [Tm.evL, hxv, hdc, Option.bind_some]⟩
    · rintro ⟨_, ⟨x, hx, d, hd, rfl⟩, hv⟩
      simp only [Tm.evL, Option.bind_eq_some_iff, Option.some.injEq] at hv
      obtain ⟨v, hxv, vs, hvs, rfl⟩ := hv
      exact ⟨v, (h0 v).2 ⟨x, hx, hxv⟩, vs, (ih vs).2 ⟨d, hd, hvs⟩, rfl⟩
/-- Choices of integers are the integers of choices. -/
theorem combos_ints : ∀ (es : List (List Tm)) (ns : List Int), ns ∈ combos (es.map intsOf) ↔ ∃ c ∈ combos es, seqO (c.map intT) = some ns
  | [], ns => by
    simp only [List.map_nil, combos, List.mem_singleton]
    constructor
    · rintro rfl; exact ⟨[], rfl, rfl⟩
    · rintro ⟨c, rfl, hc⟩; simpa [seqO] using hc.symm
  | e :: es, ns => by
    have ih := combos_ints es
    simp only [List.map_cons, combos, List.mem_flatMap, List.mem_map]
    constructor
    · rintro ⟨z, hz, ns', hn, rfl⟩
      obtain ⟨c, hc, hcn⟩ := (ih ns').1 hn
      unfold intsOf at hz
      obtain ⟨v, hv, hvz⟩ := List.mem_filterMap.1 hz
      exact ⟨v :: c, ⟨v, hv, c, hc, rfl⟩, by simp only [List.map_cons, seqO, show intT v = some z from hvz, hcn, Option.bind_some]⟩
    · rintro ⟨_, ⟨v, hv, c, hc, rfl⟩, h⟩
      simp only [List.map_cons, seqO, Option.bind_eq_some_iff, Option.some.injEq] at h
      obtain ⟨z, hz, ns', hn, rfl⟩ := h
      refine ⟨z, ?_, ns', (ih ns').2 ⟨c, hc, hn⟩, rfl⟩
      unfold intsOf
      exact List.mem_filterMap.2 ⟨v, hv, hz⟩

theorem noVar_up {t : Tm} {p : Nat} : (t.nodes (p + 1)).all noVarB = (t.nodes p).all noVarB := by
  rw [nodes_up, List.all_map]
  rfl
theorem noVar_one {t : Tm} : ∀ {p : Nat}, (t.nodes (p + 1)).all noVarB = true → (t.nodes 1).all noVarB = true
  | 0, h => h
  | p + 1, h => noVar_one (by rwa [noVar_up] at h)
theorem nodes_down {t : Tm} {p : Nat} (h : (t.nodes (p + 1)).all nodeOkB = true) : (t.nodes p).all nodeOkB = true := by
  rw [nodes_up, List.all_map] at h
  rw [List.all_eq_true] at h ⊢
  intro x hx
  exact node_low (h x hx)
theorem nodes_one {t : Tm} : ∀ {p : Nat}, (t.nodes (p + 1)).all nodeOkB = true → (t.nodes 1).all nodeOkB = true
  | 0, h => h
  | _ + 1, h => nodes_one (nodes_down h)
/-- Good at a level: valid there, without variables, without intervals. -/
def OkAt (p : Nat) (x : Tm) : Prop := (x.nodes p).all nodeOkB = true ∧ (x.nodes p).all noVarB = true ∧ x.spanB = false
theorem OkAt.evalT {p : Nat} {x : Tm} (h : OkAt (p + 1) x) : Go.Proofs.YtnobmffgchlijaaGreatDoor.evalT x = x.ev := by
  rw [evalT_ev, h.2.2, show x.validB = true from nodes_one h.1, show x.groundB = true from noVar_one h.2.1]
  rfl
theorem okL {q : Nat} : ∀ {d : List Tm}, (∀ x ∈ d, OkAt q x) → (Tm.nodesL q d).all nodeOkB = true ∧ (Tm.nodesL q d).all noVarB = true ∧ Tm.spanBL d = false
  | [], _ => ⟨rfl, rfl, rfl⟩
  | x :: d, h => by
    have h1 := h x (by simp)
    have h2 := okL fun y hy => h y (List.mem_cons_of_mem _ hy)
    simp only [Tm.nodesL, List.all_append, Tm.spanBL, h1.1, h1.2.1, h1.2.2, h2.1, h2.2.1, h2.2.2, Bool.and_self, Bool.or_self]
    exact ⟨trivial, trivial, trivial⟩
theorem nodesL_mem {q : Nat} {P : Tm × Nat → Bool} : ∀ {ts : List Tm}, (Tm.nodesL q ts).all P = true → ∀ t ∈ ts, (t.nodes q).all P = true
  | a :: ts, h, t, ht => by
    simp only [Tm.nodesL, List.all_append, Bool.and_eq_true] at h
    rcases List.mem_cons.1 ht with rfl | ht
    · exact h.1
    · exact nodesL_mem h.2 t ht
theorem head_le {l : List Int} {a : Int} (h : l.Pairwise (· < ·)) (ha : l.head? = some a) : a ∈ l ∧ ∀ z ∈ l, a ≤ z := by
  cases l with
  | nil => cases ha
  | cons x l =>
    cases ha
    rw [List.pairwise_cons] at h
    refine ⟨by simp, fun z hz => ?_⟩
    rcases List.mem_cons.1 hz with rfl | hz
    · omega
    · have := h.1 z hz; omega
theorem last_le {l : List Int} {b : Int} (h : l.Pairwise (· < ·)) (hb : l.getLast? = some b) : b ∈ l ∧ ∀ z ∈ l, z ≤ b := by
  have hm : b ∈ l := List.mem_of_getLast? hb
  refine ⟨hm, fun z hz => ?_⟩
  obtain ⟨ys, rfl⟩ := List.getLast?_eq_some_iff.1 hb
  rw [List.pairwise_append] at h
  rcases List.mem_append.1 hz with hz | hz
  · have := h.2.2 z hz b (by simp); omega
  · simp at hz; omega
theorem ints_sorted {l : List Tm} (h : l.Pairwise Lt) (hn : ∀ v ∈ l, v.kind = 1 → v = numT v.num) : (intsOf l).Pairwise (· < ·) := by
  unfold intsOf
  rw [List.pairwise_filterMap]
  refine List.Pairwise.imp_of_mem ?_ h
  intro a b ha hb hab x hx y hy
  split at hx
  · split at hy
    · rename_i k1 k2
      cases hx
      cases hy
      have e1 := hn a ha k1
      have e2 := hn b hb k2
      apply Decidable.byContradiction
      intro hc
      rw [e1, e2] at hab
      unfold Lt numT at hab
      simp only [Tm.cmp, cint_self] at hab
      by_cases heq : a.num = b.num
      · rw [heq] at hab
        simp [strCmp_self, orI, Tm.cmpL, cint_self] at hab
      · rw [if_neg (by omega), if_pos ⟨trivial, heq⟩] at hab
        unfold Lib.compareInt at hab
        rw [if_neg hc] at hab
        split at hab <;> omega
    · cases hy
  · cases hx
theorem spanRows_mem : ∀ {rows : List (List Tm)} {out all : List Tm}, spanRows rows out = some all → ∀ v, v ∈ all ↔ v ∈ out ∨ ∃ c ∈ rows, ∃ a b, rowSpan c = some (a, b) ∧ v ∈ (spanL a b).map numT
  | [], out, all, h, v => by
    simp only [spanRows, Option.some.injEq] at h
    subst h
    simp
  | c :: cs, out, all, h, v => by
    simp only [spanRows] at h
    cases hr : rowSpan c with
    | none =>
      rw [hr] at h
      rw [spanRows_mem h v]
      constructor
      · rintro (h1 | ⟨d, hd, a, b, h2, h3⟩)
        · exact Or.inl h1
        · exact Or.inr ⟨d, List.mem_cons_of_mem _ hd, a, b, h2, h3⟩
      · rintro (h1 | ⟨d, hd, a, b, h2, h3⟩)
        · exact Or.inl h1
        · rcases List.mem_cons.1 hd with rfl | hd
          · rw [hr] at h2; cases h2
          · exact Or.inr ⟨d, hd, a, b, h2, h3⟩
    | some ab =>
      obtain ⟨a0, b0⟩ := ab
      rw [hr] at h
      simp only at h
      split at h
      · cases h
      · rw [spanRows_mem h v, List.mem_append]
        constructor
        · rintro ((h1 | h1) | ⟨d, hd, a, b, h2, h3⟩)
          · exact Or.inl h1
          · exact Or.inr ⟨c, by simp, a0, b0, hr, h1⟩
          · exact Or.inr ⟨d, List.mem_cons_of_mem _ hd, a, b, h2, h3⟩
        · rintro (h1 | ⟨d, hd, a, b, h2, h3⟩)
          · exact Or.inl (Or.inl h1)
          · rcases List.mem_cons.1 hd with rfl | hd
            · rw [hr] at h2
              cases h2
              exact Or.inl (Or.inr h3)
            · exact Or.inr ⟨d, hd, a, b, h2, h3⟩
theorem mem_spanL {a b z : Int} : numT z ∈ (spanL a b).map numT ↔ a ≤ z ∧ z ≤ b := by
  rw [List.mem_map]
  constructor
  · rintro ⟨y, hy, e⟩
    have : y = z := by unfold numT at e; injection e
    subst this
    unfold spanL at hy
    obtain ⟨i, hi, rfl⟩ := List.mem_map.1 hy
    have := List.mem_range.1 hi
    omega
  · rintro ⟨h1, h2⟩
    refine ⟨z, ?_, rfl⟩
    unfold spanL
    exact List.mem_map.2 ⟨(z - a).toNat, List.mem_range.2 (by omega), by omega⟩
theorem spanL_num {a b : Int} {v : Tm} (h : v ∈ (spanL a b).map numT) : ∃ z, v = numT z ∧ a ≤ z ∧ z ≤ b := by
  obtain ⟨z, _, rfl⟩ := List.mem_map.1 h
  exact ⟨z, rfl, mem_spanL.1 h⟩
/-- A value of kind 1 is a number in range. -/
theorem int_value {v : Tm} {p : Nat} (h : (v.nodes p).all nodeOkB = true) (hk : v.kind = 1) : v = numT v.num ∧ outB v.num = false := by
  obtain ⟨k, n, s, us⟩ := v
  simp only [Tm.kind] at hk
  subst hk
  simp only [Tm.nodes, List.all_cons, Bool.and_eq_true] at h
  have h1 := (node_parts h.1).2
  have h0 := reqB_one h1
  have hu : us = [] := List.length_eq_zero_iff.1 h0
  subst hu
  unfold reqB at h1
  rw [if_pos rfl] at h1
  simp only [Bool.and_eq_true, decide_eq_true_eq] at h1
  have hs : s = ⟨#[]⟩ := by
    have h2 : s.toList = [] := by simpa using h1.1.2
    apply str_inj.1
    rw [h2, show (⟨#[]⟩ : ByteArray).toList = [] from toList_mk []]
  subst hs
  exact ⟨rfl, outB_false.2 h1.1.1⟩

theorem ok_ev {p : Nat} {x v : Tm} (h : OkAt p x) (he : x.ev = some v) : (v.nodes p).all nodeOkB = true := (ev_value x p v h.1 h.2.1 h.2.2 he).1
/-- The expansions are the values of what plain returns. -/
theorem exp_plain (t : Tm) : ∀ (p : Nat) (l all : List Tm), (t.nodes (p + 1)).all nodeOkB = true → (t.nodes (p + 1)).all noVarB = true → t.exp = some l → plainM t = some all →
    (∀ x ∈ all, OkAt (p + 1) x) ∧ ∀ v, v ∈ l ↔ ∃ x ∈ all, x.ev = some v := by
  induction t using Tm.ind with
  | h k n s args ih =>
    intro p l all ho hv hx hp
    simp only [Tm.nodes, List.all_cons, Bool.and_eq_true] at ho hv
    obtain ⟨hp12, hreq⟩ := node_parts ho.1
    have hk3 : k ≠ 3 := by
      have := hv.1
      unfold noVarB Tm.isVar at this
      simp only [Bool.not_eq_true', decide_eq_false_iff_not] at this
      exact this
    simp only [plainM, Option.bind_eq_some_iff] at hp
    obtain ⟨rows, hrows, out, hout, hall⟩ := hp
    split at hall
    case isFalse => cases hall
    cases hall
    obtain ⟨ls, hl1, hl2, rfl⟩ := plain_rows hrows
    simp only [Tm.exp] at hx
    -- what is known of the arguments
    have key : ∀ es, Tm.expL args = some es → es.length = ls.length ∧ (∀ i (h : i < es.length) (h' : i < ls.length) v, v ∈ es[i] ↔ ∃ x ∈ ls[i], x.ev = some v) ∧ (∀ d ∈ combos ls, d.length = args.length ∧ ∀ x ∈ d, OkAt (p + 1 + 1) x) ∧ (∀ e ∈ es, e.Pairwise Lt) ∧ ∀ l ∈ ls, ∀ x ∈ l, OkAt (p + 1 + 1) x := by
      intro es hes
      have he := Tm.expL_some hes
      have hi : ∀ i (h : i < args.length) (h1 : i < es.length) (h2 : i < ls.length), (∀ x ∈ ls[i], OkAt (p + 1 + 1) x) ∧ ∀ v, v ∈ es[i] ↔ ∃ x ∈ ls[i], x.ev = some v := fun i h h1 h2 =>
        ih args[i] (List.getElem_mem h) (p + 1) es[i] ls[i] (nodesL_mem ho.2 _ (List.getElem_mem h)) (nodesL_mem hv.2 _ (List.getElem_mem h)) (he.2 i h h1) (hl2 i h h2)
      refine ⟨by omega, fun i h1 h2 => (hi i (by omega) h1 h2).2, fun d hd => ?_, fun e hmem => ?_, fun l hmem x hxl => ?_⟩
      · have hdl := combos_length ls d hd
        refine ⟨by omega, fun x hxd => ?_⟩
        obtain ⟨i, hid, rfl⟩ := List.mem_iff_getElem.1 hxd
        have h3 := ((combos_mem ls d).1 hd).2 i hid (by omega)
        exact (hi i (by omega) (by omega) (by omega)).1 _ h3
      · obtain ⟨i, hie, rfl⟩ := List.mem_iff_getElem.1 hmem
        exact exp_sorted args[i] _ (he.2 i (by omega) hie)
      · obtain ⟨i, hie, rfl⟩ := List.mem_iff_getElem.1 hmem
        exact (hi i (by omega) (by omega) hie).1 x hxl
    have okMk : ∀ d, k ≠ 6 → d.length = args.length → (∀ x ∈ d, OkAt (p + 1 + 1) x) → OkAt (p + 1) (.mk k n s d) := by
      intro d h6 hdl hd
      obtain ⟨a1, a2, a3⟩ := okL hd
      refine ⟨?_, ?_, ?_⟩
      · simp only [Tm.nodes, List.all_cons, Bool.and_eq_true]
        exact ⟨node_mk hp12 (by rw [hdl]; exact hreq), a1⟩
      · simp only [Tm.nodes, List.all_cons, Bool.and_eq_true]
        refine ⟨?_, a2⟩
        unfold noVarB Tm.isVar Tm.kind
        simpa using hk3
      · simp only [Tm.spanB, a3, Bool.or_false, decide_eq_false_iff_not]; exact h6
    by_cases h4 : k = 4
    · subst h4
      rw [if_neg (by omega)] at hout
      cases hout
      simp only [if_true, Option.bind_eq_some_iff] at hx
      obtain ⟨es, hes, hx⟩ := hx
      split at hx
      case isFalse => cases hx
      cases hx
      obtain ⟨k1, k2, k3, _⟩ := key es hes
      constructor
      · intro x hxm
        obtain ⟨d, hd, rfl⟩ := List.mem_map.1 hxm
        exact okMk d (by omega) (k3 d hd).1 (k3 d hd).2
      · intro v
        rw [List.mem_map]
        constructor
        · rintro ⟨c, hc, rfl⟩
          obtain ⟨d, hd, hdc⟩ := (combos_ev k1 k2 c).1 hc
          exact ⟨_, List.mem_map.2 ⟨d, hd, rfl⟩, by simp only [Tm.ev, if_true, hdc, Option.bind_some]⟩
        · rintro ⟨x, hxm, he⟩
          obtain ⟨d, hd, rfl⟩ := List.mem_map.1 hxm
          simp only [Tm.ev, if_true, Option.bind_eq_some_iff, Option.some.injEq] at he
          obtain ⟨c, hc, rfl⟩ := he
          exact ⟨c, (combos_ev k1 k2 c).2 ⟨d, hd, hc⟩, rfl⟩
    · rw [if_neg h4] at hx
      by_cases h5 : k = 5
      · subst h5
        rw [if_neg (by omega)] at hout
        cases hout
        simp only [if_true, Option.bind_eq_some_iff] at hx
        obtain ⟨es, hes, hx⟩ := hx
        obtain ⟨k1, k2, k3, _⟩ := key es hes
        cases har : arOf s.toList args.length with
        | none => rw [har] at hx; cases hx
        | some o =>
          rw [har] at hx
          simp only at hx
          split at hx
          case isFalse => cases hx
          cases hx
          constructor
          · intro x hxm
            obtain ⟨d, hd, rfl⟩ := List.mem_map.1 hxm
            exact okMk d (by omega) (k3 d hd).1 (k3 d hd).2
          · have hcalc : ∀ ns : List Int, ns.length = args.length → calcI s.toList ns = applyI o ns := fun ns hn => by unfold calcI; rw [hn, har]
            intro v
            rw [List.mem_map]
            constructor
            · rintro ⟨z, hz, rfl⟩
              have hz' : z ∈ resultsI o (es.map intsOf) := by unfold sortI at hz; exact List.mem_mergeSort.1 hz
              obtain ⟨ns, hns, hzn⟩ := resultsI_mem.1 hz'
              obtain ⟨c, hc, hcn⟩ := (combos_ints es ns).1 hns
              obtain ⟨d, hd, hdc⟩ := (combos_ev k1 k2 c).1 hc
              have hnl : ns.length = args.length := by
                have h1 := combos_length _ _ hns
                rw [List.length_map] at h1
                omega
              refine ⟨_, List.mem_map.2 ⟨d, hd, rfl⟩, ?_⟩
              simp only [Tm.ev, if_neg h4, if_true, hdc, hcn, Option.bind_some, hcalc ns hnl, hzn]
            · rintro ⟨x, hxm, he⟩
              obtain ⟨d, hd, rfl⟩ := List.mem_map.1 hxm
              simp only [Tm.ev, if_neg h4, if_true, Option.bind_eq_some_iff, Option.some.injEq] at he
              obtain ⟨c, hc, ns, hns, z, hz, rfl⟩ := he
              have hcm := (combos_ev k1 k2 c).2 ⟨d, hd, hc⟩
              have hnm := (combos_ints es ns).2 ⟨c, hcm, hns⟩
              have hnl : ns.length = args.length := by
                have h1 := combos_length _ _ hnm
                rw [List.length_map] at h1
                omega
              refine ⟨z, ?_, rfl⟩
              unfold sortI
              rw [List.mem_mergeSort]
              exact resultsI_mem.2 ⟨ns, hnm, by rw [← hcalc ns hnl]; exact hz⟩
      · rw [if_neg h5] at hx
        by_cases h6 : k = 6
        · subst h6
          simp only [if_true] at hout
          simp only [if_true, Option.bind_eq_some_iff] at hx
          obtain ⟨es, hes, hx⟩ := hx
          obtain ⟨k1, k2, k3, k4, k5⟩ := key es hes
          have hal : args.length = 2 := by
            unfold reqB at hreq
            rw [if_neg (by omega), if_neg (by omega), if_neg (by omega), if_neg (by omega), if_neg (by omega), if_pos rfl] at hreq
            simp only [Bool.and_eq_true, decide_eq_true_eq] at hreq
            exact hreq.2
          obtain ⟨P, Q, rfl⟩ : ∃ P Q, ls = [P, Q] := by
            have h2 : ls.length = 2 := by omega
            rcases ls with _ | ⟨P, _ | ⟨Q, _ | ⟨_, _⟩⟩⟩
            · simp at h2
            · simp at h2
            · exact ⟨P, Q, rfl⟩
            · simp at h2
          obtain ⟨A, B, rfl⟩ : ∃ A B, es = [A, B] := by
            have h2 : es.length = 2 := by rw [k1]; rfl
            rcases es with _ | ⟨A, _ | ⟨B, _ | ⟨_, _⟩⟩⟩
            · simp at h2
            · simp at h2
            · exact ⟨A, B, rfl⟩
            · simp at h2
          · have okX : ∀ x ∈ P, OkAt (p + 1 + 1) x := k5 P (by simp)
            have okY : ∀ x ∈ Q, OkAt (p + 1 + 1) x := k5 Q (by simp)
            have mA : ∀ v, v ∈ A ↔ ∃ x ∈ P, x.ev = some v := k2 0 (by simp) (by simp)
            have mB : ∀ v, v ∈ B ↔ ∃ x ∈ Q, x.ev = some v := k2 1 (by simp) (by simp)
            have okP : ∀ x ∈ P, ∀ y ∈ Q, OkAt (p + 1 + 1) x ∧ OkAt (p + 1 + 1) y := fun x hx y hy => by
              have hd : [x, y] ∈ combos [P, Q] := by simp only [combos, List.mem_flatMap, List.mem_map]; exact ⟨x, hx, [y], ⟨y, hy, [], by simp, rfl⟩, rfl⟩
              exact ⟨(k3 _ hd).2 x (by simp), (k3 _ hd).2 y (by simp)⟩
            have hrow : ∀ x ∈ P, ∀ y ∈ Q, ∀ a b, rowSpan [x, y] = some (a, b) ↔ (x.ev = some (numT a) ∧ y.ev = some (numT b)) := by
              intro x hx y hy a b
              obtain ⟨o1, o2⟩ := okP x hx y hy
              unfold rowSpan
              simp only [o1.evalT, o2.evalT]
              cases h1 : x.ev with
              | none => simp
              | some u =>
                cases h2 : y.ev with
                | none => simp
                | some w =>
                  simp only
                  constructor
                  · intro h
                    split at h
                    · rename_i hk
                      cases h
                      exact ⟨by rw [← (int_value (ok_ev o1 h1) hk.1).1], by rw [← (int_value (ok_ev o2 h2) hk.2).1]⟩
                    · cases h
                  · rintro ⟨e1, e2⟩
                    cases e1
                    cases e2
                    rfl
            have hmem := spanRows_mem hout
            have hcm : ∀ c, c ∈ combos [P, Q] ↔ ∃ x ∈ P, ∃ y ∈ Q, c = [x, y] := by
              intro c
              simp only [combos, List.mem_flatMap, List.mem_map, List.mem_singleton]
              constructor
              · rintro ⟨x, hx, _, ⟨y, hy, _, rfl, rfl⟩, rfl⟩; exact ⟨x, hx, y, hy, rfl⟩
              · rintro ⟨x, hx, y, hy, rfl⟩; exact ⟨x, hx, _, ⟨y, hy, _, rfl, rfl⟩, rfl⟩
            have hin : ∀ v, v ∈ all ↔ ∃ x ∈ P, ∃ y ∈ Q, ∃ a b, x.ev = some (numT a) ∧ y.ev = some (numT b) ∧ v ∈ (spanL a b).map numT := by
              intro v
              rw [hmem v]
              constructor
              · rintro (h | ⟨c, hc, a, b, h1, h2⟩)
                · cases h
                · obtain ⟨x, hx, y, hy, rfl⟩ := (hcm c).1 hc
                  obtain ⟨e1, e2⟩ := (hrow x hx y hy a b).1 h1
                  exact ⟨x, hx, y, hy, a, b, e1, e2, h2⟩
              · rintro ⟨x, hx, y, hy, a, b, e1, e2, h2⟩
                exact Or.inr ⟨[x, y], (hcm _).2 ⟨x, hx, y, hy, rfl⟩, a, b, (hrow x hx y hy a b).2 ⟨e1, e2⟩, h2⟩
            have hfit : ∀ v ∈ all, ∃ z, v = numT z ∧ outB z = false := by
              intro v hv
              obtain ⟨x, hx, y, hy, a, b, e1, e2, h2⟩ := (hin v).1 hv
              obtain ⟨o1, o2⟩ := okP x hx y hy
              obtain ⟨z, rfl, hz1, hz2⟩ := spanL_num h2
              have ra := outB_false.1 (int_value (ok_ev o1 e1) rfl).2
              have rb := outB_false.1 (int_value (ok_ev o2 e2) rfl).2
              simp only [numT, Tm.num] at ra rb
              exact ⟨z, rfl, outB_false.2 (by omega)⟩
            have nA : ∀ a, a ∈ intsOf A ↔ ∃ x ∈ P, x.ev = some (numT a) := by
              intro a
              unfold intsOf
              rw [List.mem_filterMap]
              constructor
              · rintro ⟨v, hv, he⟩
                split at he
                · rename_i hk
                  cases he
                  obtain ⟨x, hx, hxe⟩ := (mA v).1 hv
                  exact ⟨x, hx, by rw [← (int_value (ok_ev (okX x hx) hxe) hk).1]; exact hxe⟩
                · cases he
              · rintro ⟨x, hx, hxe⟩
                exact ⟨numT a, (mA _).2 ⟨x, hx, hxe⟩, rfl⟩
            have nB : ∀ a, a ∈ intsOf B ↔ ∃ x ∈ Q, x.ev = some (numT a) := by
              intro a
              unfold intsOf
              rw [List.mem_filterMap]
              constructor
              · rintro ⟨v, hv, he⟩
                split at he
                · rename_i hk
                  cases he
                  obtain ⟨x, hx, hxe⟩ := (mB v).1 hv
                  exact ⟨x, hx, by rw [← (int_value (ok_ev (okY x hx) hxe) hk).1]; exact hxe⟩
                · cases he
              · rintro ⟨x, hx, hxe⟩
                exact ⟨numT a, (mB _).2 ⟨x, hx, hxe⟩, rfl⟩
            have sA : (intsOf A).Pairwise (· < ·) := ints_sorted (k4 A (by simp)) fun v hv hk => by
              obtain ⟨x, hx, he⟩ := (mA v).1 hv
              exact (int_value (ok_ev (okX x hx) he) hk).1
            have sB : (intsOf B).Pairwise (· < ·) := ints_sorted (k4 B (by simp)) fun v hv hk => by
              obtain ⟨x, hx, he⟩ := (mB v).1 hv
              exact (int_value (ok_ev (okY x hx) he) hk).1
            have hall : ∀ v, v ∈ all ↔ ∃ a b, a ∈ intsOf A ∧ b ∈ intsOf B ∧ v ∈ (spanL a b).map numT := by
              intro v
              rw [hin v]
              constructor
              · rintro ⟨x, hx, y, hy, a, b, e1, e2, h⟩; exact ⟨a, b, (nA a).2 ⟨x, hx, e1⟩, (nB b).2 ⟨y, hy, e2⟩, h⟩
              · rintro ⟨a, b, ha, hb, h⟩
                obtain ⟨x, hx, e1⟩ := (nA a).1 ha
                obtain ⟨y, hy, e2⟩ := (nB b).1 hb
                exact ⟨x, hx, y, hy, a, b, e1, e2, h⟩
            refine ⟨fun x hxm => ?_, fun v => ?_⟩
            · obtain ⟨z, rfl, hz⟩ := hfit x hxm
              have h1 := numT_nodes (p := p + 1) hp12 hz
              exact ⟨h1.1, rfl, rfl⟩
            · have hev : (∃ x ∈ all, x.ev = some v) ↔ v ∈ all := by
                constructor
                · rintro ⟨x, hxm, he⟩
                  obtain ⟨z, rfl, _⟩ := hfit x hxm
                  have : numT z = v := by
                    have h2 : (numT z).ev = some (numT z) := rfl
                    rw [h2] at he
                    exact Option.some.inj he
                  rw [← this]; exact hxm
                · intro hm
                  obtain ⟨z, rfl, _⟩ := hfit v hm
                  exact ⟨_, hm, rfl⟩
              rw [hev, hall v]
              simp only [List.getD_cons_zero, List.getD_cons_succ] at hx
              cases hA : (intsOf A).head? with
              | none =>
                rw [hA] at hx
                cases hx
                rw [List.head?_eq_none_iff] at hA
                rw [hA]
                simp
              | some a0 =>
                rw [hA] at hx
                cases hB : (intsOf B).getLast? with
                | none =>
                  rw [hB] at hx
                  cases hx
                  rw [List.getLast?_eq_none_iff] at hB
                  rw [hB]
                  simp
                | some b0 =>
                  rw [hB] at hx
                  simp only at hx
                  split at hx
                  case isFalse => cases hx
                  cases hx
                  obtain ⟨ha1, ha2⟩ := head_le sA hA
                  obtain ⟨hb1, hb2⟩ := last_le sB hB
                  constructor
                  · intro h; exact ⟨a0, b0, ha1, hb1, h⟩
                  · rintro ⟨a, b, ha, hb, h⟩
                    obtain ⟨z, rfl, hz1, hz2⟩ := spanL_num h
                    have := ha2 a ha
                    have := hb2 b hb
                    exact mem_spanL.2 ⟨by omega, by omega⟩
        · rw [if_neg h6] at hx
          rw [if_neg h6] at hout
          cases hx
          cases hout
          have h0 := (reqB_leaf hreq hk3 h4 h5 h6).2
          have ha : args = [] := List.length_eq_zero_iff.1 h0
          subst ha
          have hls : ls = [] := List.length_eq_zero_iff.1 (by simpa using hl1)
          subst hls
          constructor
          · intro x hxm
            simp only [combos, List.map_cons, List.map_nil, List.mem_singleton] at hxm
            subst hxm
            exact okMk [] h6 rfl (fun x hx => by cases hx)
          · intro v
            simp only [combos, List.map_cons, List.map_nil, List.mem_singleton, exists_eq_left, Tm.ev, if_neg h4, if_neg h5, Option.some.injEq]
            exact eq_comm

/-- Expansions are values, at the level of their term. -/
theorem exp_value (t : Tm) : ∀ (p : Nat) (l : List Tm), (t.nodes p).all nodeOkB = true → (t.nodes p).all noVarB = true → t.exp = some l → ∀ v ∈ l, (v.nodes p).all nodeOkB = true ∧ (v.nodes p).all plainB = true := by
  induction t using Tm.ind with
  | h k n s args ih =>
    intro p l ho hv hx v hvl
    simp only [Tm.nodes, List.all_cons, Bool.and_eq_true] at ho hv
    obtain ⟨hp12, hreq⟩ := node_parts ho.1
    have hk3 : k ≠ 3 := by
      have := hv.1
      unfold noVarB Tm.isVar at this
      simp only [Bool.not_eq_true', decide_eq_false_iff_not] at this
      exact this
    have hi : ∀ es, Tm.expL args = some es → es.length = args.length ∧ ∀ e ∈ es, ∀ u ∈ e, (u.nodes (p + 1)).all nodeOkB = true ∧ (u.nodes (p + 1)).all plainB = true := by
      intro es hes
      have he := Tm.expL_some hes
      refine ⟨he.1, fun e hem u hu => ?_⟩
      obtain ⟨i, hie, rfl⟩ := List.mem_iff_getElem.1 hem
      have hia : i < args.length := by omega
      exact ih args[i] (List.getElem_mem hia) (p + 1) es[i] (nodesL_mem ho.2 _ (List.getElem_mem hia)) (nodesL_mem hv.2 _ (List.getElem_mem hia)) (he.2 i hia hie) u hu
    simp only [Tm.exp] at hx
    by_cases h4 : k = 4
    · subst h4
      simp only [if_true, Option.bind_eq_some_iff] at hx
      obtain ⟨es, hes, hx⟩ := hx
      split at hx
      case isFalse => cases hx
      cases hx
      obtain ⟨c, hc, rfl⟩ := List.mem_map.1 hvl
      obtain ⟨h1, h2⟩ := hi es hes
      have hcl := combos_length es c hc
      have hn : n = 0 := reqB_four hreq
      subst hn
      have hall : ∀ u ∈ c, (u.nodes (p + 1)).all nodeOkB = true ∧ (u.nodes (p + 1)).all plainB = true := by
        intro u hu
        obtain ⟨i, hic, rfl⟩ := List.mem_iff_getElem.1 hu
        exact h2 es[i] (List.getElem_mem (by omega)) _ (((combos_mem es c).1 hc).2 i hic (by omega))
      have hL : ∀ d : List Tm, (∀ u ∈ d, (u.nodes (p + 1)).all nodeOkB = true ∧ (u.nodes (p + 1)).all plainB = true) → (Tm.nodesL (p + 1) d).all nodeOkB = true ∧ (Tm.nodesL (p + 1) d).all plainB = true := by
        intro d
        induction d with
        | nil => intro _; exact ⟨rfl, rfl⟩
        | cons x d ihd =>
          intro h
          have a1 := h x (by simp)
          have a2 := ihd fun u hu => h u (List.mem_cons_of_mem _ hu)
          simp only [Tm.nodesL, List.all_append, a1.1, a1.2, a2.1, a2.2, Bool.and_self]
          exact ⟨trivial, trivial⟩
      obtain ⟨b1, b2⟩ := hL c hall
      simp only [Tm.nodes, List.all_cons, Bool.and_eq_true]
      exact ⟨⟨node_mk hp12 (by rw [hcl, h1]; exact hreq), b1⟩, plain_mk (Or.inr (Or.inr rfl)), b2⟩
    · rw [if_neg h4] at hx
      by_cases h5 : k = 5
      · subst h5
        simp only [if_true, Option.bind_eq_some_iff] at hx
        obtain ⟨es, hes, hx⟩ := hx
        split at hx
        · cases hx
        · split at hx
          case isFalse => cases hx
          cases hx
          obtain ⟨z, hz, rfl⟩ := List.mem_map.1 hvl
          unfold sortI at hz
          obtain ⟨c, _, hc⟩ := resultsI_mem.1 (List.mem_mergeSort.1 hz)
          exact numT_nodes hp12 (outB_false.2 (applyI_range hc))
      · rw [if_neg h5] at hx
        by_cases h6 : k = 6
        · subst h6
          simp only [if_true, Option.bind_eq_some_iff] at hx
          obtain ⟨es, hes, hx⟩ := hx
          obtain ⟨_, h2⟩ := hi es hes
          have hint : ∀ (e : List Tm) (a : Int), (e ∈ es ∨ e = []) → a ∈ intsOf e → outB a = false := by
            intro e a he ha
            unfold intsOf at ha
            obtain ⟨u, hu, hua⟩ := List.mem_filterMap.1 ha
            rcases he with he | rfl
            · split at hua
              · rename_i hk
                cases hua
                exact (int_value (h2 e he u hu).1 hk).2
              · cases hua
            · cases hu
          have hget : ∀ i, es.getD i [] ∈ es ∨ es.getD i [] = [] := by
            intro i
            rw [List.getD_eq_getElem?_getD]
            cases h : es[i]? with
            | none => exact Or.inr rfl
            | some e => exact Or.inl (List.mem_of_getElem? h)
          split at hx
          · rename_i a b ha hb
            split at hx
            case isFalse => cases hx
            cases hx
            obtain ⟨z, rfl, hz1, hz2⟩ := spanL_num hvl
            have r1 := outB_false.1 (hint _ a (hget 0) (List.mem_of_mem_head? ha))
            have r2 := outB_false.1 (hint _ b (hget 1) (List.mem_of_getLast? hb))
            exact numT_nodes hp12 (outB_false.2 (by omega))
          · cases hx
            cases hvl
        · rw [if_neg h6] at hx
          cases hx
          simp only [List.mem_singleton] at hvl
          subst hvl
          obtain ⟨hk, h0⟩ := reqB_leaf hreq hk3 h4 h5 h6
          have ha : args = [] := List.length_eq_zero_iff.1 h0
          subst ha
          simp only [Tm.nodes, Tm.nodesL, List.all_cons, List.all_nil, Bool.and_true]
          exact ⟨node_mk hp12 hreq, plain_mk (by omega)⟩
theorem exp_values {t : Tm} {l : List Tm} (hv : t.validB = true) (hg : t.groundB = true) (h : t.exp = some l) : ∀ v ∈ l, v.valueB = true := by
  intro v hvl
  unfold Tm.valueB
  rw [Bool.and_eq_true]
  exact exp_value t 1 l hv hg h v hvl
theorem plainM_len {t : Tm} {all : List Tm} (h : plainM t = some all) : all.length ≤ 300 := by
  obtain ⟨k, n, s, args⟩ := t
  simp only [plainM, Option.bind_eq_some_iff] at h
  obtain ⟨rows, _, out, _, h⟩ := h
  split at h
  · cases h; assumption
  · cases h
/-- Every value that plain returns is an expansion, and every expansion is met. -/
theorem plain_met {t : Tm} {l all : List Tm} (hv : t.validB = true) (hg : t.groundB = true) (hx : t.exp = some l) (hp : plainM t = some all) : (∀ x ∈ all, ∀ v, evalT x = some v → v ∈ l) ∧ ∀ v ∈ l, ∃ x ∈ all, evalT x = some v := by
  obtain ⟨h1, h2⟩ := exp_plain t 0 l all hv hg hx hp
  refine ⟨fun x hxm v he => (h2 v).2 ⟨x, hxm, ?_⟩, fun v hvl => ?_⟩
  · rw [← (h1 x hxm).evalT]; exact he
  · obtain ⟨x, hxm, he⟩ := (h2 v).1 hvl
    exact ⟨x, hxm, by rw [(h1 x hxm).evalT]; exact he⟩
theorem lt_ne {a b : Tm} (h : Lt a b) : a ≠ b := by
  rintro rfl
  unfold Lt at h
  rw [cmp_same] at h
  omega
/-- One argument more. -/
theorem plainR_take {ts : List Tm} : ∀ {j : Nat} (hj : j < ts.length) (rows : List (List Tm)), plainR (ts.take (j + 1)) rows = (plainR (ts.take j) rows).bind fun R => (plainM ts[j]).bind fun l => if 300 < R.length * l.length then none else some (R.flatMap fun r => l.map fun x => r ++ [x]) := by
  induction ts with
  | nil => intro j hj; simp at hj
  | cons t ts ih =>
    intro j hj rows
    cases j with
    | zero =>
      simp only [List.take_succ_cons, List.take_zero, plainR, List.getElem_cons_zero, Option.bind_some]
    | succ j =>
      simp only [List.take_succ_cons, plainR, List.getElem_cons_succ]
      cases plainM t with
      | none => rfl
      | some l =>
        simp only [Option.bind_some]
        split
        · rfl
        · exact ih (by simpa using hj) _
theorem longer_length (R : List (List Tm)) (l : List Tm) : (R.flatMap fun r => l.map fun x => r ++ [x]).length = R.length * l.length := by
  induction R with
  | nil => simp
  | cons r R ih => simp only [List.flatMap_cons, List.length_append, List.length_map, ih, List.length_cons, Nat.succ_mul]; omega
theorem plainR_len : ∀ {ts : List Tm} {rows R : List (List Tm)} {m : Nat}, plainR ts rows = some R → (∀ r ∈ rows, r.length = m) → rows.length ≤ 300 → R.length ≤ 300 ∧ ∀ r ∈ R, r.length = m + ts.length
  | [], rows, R, m, h, hr, hl => by
    simp only [plainR, Option.some.injEq] at h
    subst h
    exact ⟨hl, fun r h => by rw [hr r h]; rfl⟩
  | t :: ts, rows, R, m, h, hr, hl => by
    simp only [plainR, Option.bind_eq_some_iff] at h
    obtain ⟨l, _, h⟩ := h
    split at h
    · cases h
    · rename_i hc
      have h1 : ∀ r ∈ rows.flatMap (fun r => l.map fun x => r ++ [x]), r.length = m + 1 := by
        intro r h2
        obtain ⟨r0, h3, h4⟩ := List.mem_flatMap.1 h2
        obtain ⟨x, _, rfl⟩ := List.mem_map.1 h4
        simp [hr r0 h3]
      have := plainR_len h h1 (by rw [longer_length]; omega)
      refine ⟨this.1, fun r h2 => ?_⟩
      rw [this.2 r h2, List.length_cons]
      omega
end
section
open Go.RowKit

/-- Which operation ends the fact on which: the facts that operation i waits for are whole when it comes. -/
def killOk (ops : Array Oper) (n : Nat) (kl : Nat → Nat → Bool) : Bool := (List.range n).all fun i => match ops[i]? with
  | some o => o.after.all fun e => (List.range ops.size).all fun k => !(Region.binds .any e && kl e.on k) || k == i || waitsT ops ops.size k i
  | none => true
theorem killOk_spec {ops : Array Oper} {n : Nat} {kl : Nat → Nat → Bool} (h : killOk ops n kl = true) (i : Nat) (hin : i < n) (o : Oper) (ho : ops[i]? = some o) (e : _) (he : e ∈ o.after) (hb : Region.binds .any e = true) (k : Nat) (hk : k < ops.size) (hkl : kl e.on k = true) : k = i ∨ waitsT ops ops.size k i = true := by
  have h1 := List.all_eq_true.1 h i (List.mem_range.2 hin)
  simp only [ho, Array.all_eq_true_iff_forall_mem] at h1
  have h2 := List.all_eq_true.1 (h1 e he) k (List.mem_range.2 hk)
  simp only [hb, hkl, Bool.and_self, Bool.not_true, Bool.false_or, Bool.or_eq_true, beq_iff_eq] at h2
  exact h2
structure HeadInvK (ops : Array Oper) (n : Nat) (kl : Nat → Nat → Bool) (Φ : Facts) (a0 : Act) (w0 : World) (listed : Array Bool) (a : Act) (w : World) : Prop where
  below : Below w0.heap.size w0 w
  defers : a.defers = a0.defers
  tmps : a.tmps.size = a0.tmps.size
  outer : ∀ t, noDstTo ops n t = true → a.tmps.getD t undef = a0.tmps.getD t undef
  facts : ∀ i o d, ops[i]? = some o → i < n → listed.getD i false = true → (∀ k, k < ops.size → kl i k = true → listed.getD k false = false) → o.dst = some d → Φ i (a.tmps.getD d undef) w
/-- Where operation i has come to, and which facts it leaves. -/
def SteppedK (ops : Array Oper) (kl : Nat → Nat → Bool) (Φ : Facts) (w0 : World) (i : Nat) (o : Oper) (a : Act) (w : World) (a' : Act) (w' : World) : Prop :=
  ∃ v, a' = a.put o.dst v ∧ Below w0.heap.size w w' ∧ (∀ d, o.dst = some d → Φ i v w') ∧ ∀ j u, j ≠ i → kl j i = false → waitsT ops ops.size j i = false → Φ j u w → Φ j u w'
def StepToK (P : Program) (ops : Array Oper) (n : Nat) (kl : Nat → Nat → Bool) (Q : Exit → Act → World → Prop) (Φ : Facts) (a0 : Act) (w0 : World) (i : Nat) (o : Oper) : Prop :=
  ∀ a w, Below w0.heap.size w0 w → a.defers = a0.defers → a.tmps.size = a0.tmps.size →
    (∀ t, noDstTo ops n t = true → a.tmps.getD t undef = a0.tmps.getD t undef) →
    (∀ j oj d, waitsFor o j = true → ops[j]? = some oj → oj.dst = some d → Φ j (a.tmps.getD d undef) w) →
    Region.wanted o (yielded ops a.tmps) = true ∧ o.wp P a w (SteppedK ops kl Φ w0 i o a w) Q
theorem SteppedK.at {ops : Array Oper} {kl : Nat → Nat → Bool} {Φ : Facts} {w0 : World} {i : Nat} {o : Oper} {a : Act} {w w' : World} {v : Value} {tm : Array Value} {df : List Deferred} (hv : tm = (a.put o.dst v).tmps) (hf : a.defers = df) (h0 : w0.heap.size ≤ w.heap.size) (hb : Below w.heap.size w w') (hΦ : Φ i v w')
    (hst : ∀ i v w w', Φ i v w → Below w.heap.size w w' → Φ i v w') : SteppedK ops kl Φ w0 i o a w ⟨tm, df⟩ w' := by
  refine ⟨v, ?_, hb.mono h0, fun _ _ => hΦ, fun j u _ _ _ h => hst j u w w' h hb⟩
  subst hv hf
  cases o.dst <;> rfl
theorem HeadInvK.put {ops : Array Oper} {n : Nat} {kl : Nat → Nat → Bool} {Φ : Facts} {a0 : Act} {w0 : World} (hok : regionOk ops a0.tmps.size = true)
    {listed : Array Bool} {a : Act} {w : World} (hls : listed.size = ops.size) (hcl : ListedOk ops listed) (hJ : HeadInvK ops n kl Φ a0 w0 listed a w) {i : Nat} {o : Oper} (hin : i < n) (ho : ops[i]? = some o) (hil : listed.getD i false = false) {v : Value} {w' : World} (hb : Below w0.heap.size w w') (hv : ∀ d, o.dst = some d → Φ i v w')
    (hk : ∀ j u, j ≠ i → kl j i = false → waitsT ops ops.size j i = false → Φ j u w → Φ j u w') :
    HeadInvK ops n kl Φ a0 w0 (listed.setIfInBounds i true) (a.put o.dst v) w' := by
  have hi := (Array.getElem?_eq_some_iff.1 ho).1
  refine ⟨hJ.below.trans hb, ?_, ?_, ?_, ?_⟩
  · rw [← hJ.defers]; cases o.dst <;> rfl
  · rw [← hJ.tmps]; cases o.dst <;> simp [Act.put]
  · intro t ht
    rw [← hJ.outer t ht]
    cases hd : o.dst with
    | none => rfl
    | some d =>
      have hne : d ≠ t := fun e => noDstTo_spec ht i hin o ho (by rw [hd, e])
      simp [Act.put, Array.getD_eq_getD_getElem?, Array.getElem?_setIfInBounds_ne hne]
  · intro j oj d hoj hjn hlj hal hd
    by_cases hji : j = i
    · subst hji
      obtain rfl : oj = o := by rw [ho] at hoj; exact (Option.some.inj hoj).symm
      have hdn := ((regionOk_spec hok j oj ho).2 d hd).1
      rw [hd]
      have e : (a.put (some d) v).tmps.getD d undef = v := by
        have : d < a.tmps.size := by rw [hJ.tmps]; exact hdn
        simp [Act.put, Array.getD_eq_getD_getElem?, this]
      rw [e]
      exact hv d hd
    · have hlj' : listed.getD j false = true := by
        simpa [Array.getD_eq_getD_getElem?, Array.getElem?_setIfInBounds_ne (fun e => hji e.symm)] using hlj
      have hki : kl j i = false := by
        cases hq : kl j i with
        | false => rfl
        | true =>
          have := hal i hi hq
          simp [Array.getD_eq_getD_getElem?, hls, hi] at this
      have hwt : waitsT ops ops.size j i = false := by
        cases hq : waitsT ops ops.size j i with
        | false => rfl
        | true =>
          have := waits_listed hcl i ops.size j oj hoj (hcl j oj hoj hlj') hq
          rw [this] at hil; cases hil
      have hal' : ∀ k, k < ops.size → kl j k = true → listed.getD k false = false := by
        intro k hk' hq
        have h := hal k hk' hq
        by_cases e : k = i
        · rw [e]; exact hil
        · simpa [Array.getD_eq_getD_getElem?, Array.getElem?_setIfInBounds_ne (fun h => e h.symm)] using h
      have hf0 := hk j _ hji hki hwt (hJ.facts j oj d hoj hjn hlj' hal' hd)
      cases hd' : o.dst with
      | none => exact hf0
      | some d' =>
        have hne : d' ≠ d := by
          intro e
          subst e
          rcases Nat.lt_or_gt_of_ne hji with h | h
          · exact ((regionOk_spec hok i o ho).2 d' hd').2 j oj h hoj hd
          · exact ((regionOk_spec hok j oj hoj).2 d' hd).2 i o h ho hd'
        simpa [Act.put, Array.getD_eq_getD_getElem?, Array.getElem?_setIfInBounds_ne hne] using hf0

/-- The rule: a head in any order, in which an operation may end another's fact; then a tail. -/
theorem wp_region_kill_tail {P : Program} {ops : Array Oper} {Q : Exit → Act → World → Prop} {id : Nat} {a0 : Act} {w0 : World} (hm : P.follows .mixedOrders = true) (n : Nat) (kl : Nat → Nat → Bool) (Φ : Facts)
    (hok : regionOk ops a0.tmps.size = true) (htl : tailOk ops n = true) (hko : killOk ops n kl = true)
    (step : ∀ i o, ops[i]? = some o → i < n → StepToK P ops n kl Q Φ a0 w0 i o)
    (tail : ∀ a w, Below w0.heap.size w0 w → a.defers = a0.defers → a.tmps.size = a0.tmps.size → (∀ t, noDstTo ops n t = true → a.tmps.getD t undef = a0.tmps.getD t undef) →
      (∀ i o d, ops[i]? = some o → i < n → (∀ k, k < n → kl i k = false) → o.dst = some d → Φ i (a.tmps.getD d undef) w) → wpList P ops Q (ops.toList.drop n) a w)
    (hkn : ∀ i k, n ≤ k → kl i k = false) : (Code.region id ops true).wp P Q a0 w0 := by
  have hlt := tailOk_lt htl
  have hcons : ∀ k o, ops[k]? = some o → ops.toList.drop k = o :: ops.toList.drop (k + 1) := by
    intro k o ho
    have hk := (Array.getElem?_eq_some_iff.1 ho).1
    rw [List.drop_eq_getElem_cons (by simpa using hk)]
    congr 1
    have := (Array.getElem?_eq_some_iff.1 ho).2
    simpa using this
  refine wp_region_any hm (wpAny_inv hok (fun l a w => l.size = ops.size ∧ ListedOk ops l ∧ (((∀ j, n ≤ j → l.getD j false = false) ∧ HeadInvK ops n kl Φ a0 w0 l a w) ∨
    ∃ k, n < k ∧ (∀ j, j < k → j < ops.size → l.getD j false = true) ∧ (∀ j, k ≤ j → l.getD j false = false) ∧ wpList P ops Q (ops.toList.drop k) a w)) (fun _ _ _ h => h.1) ?_ ?_ ops.size _ a0 _ ⟨by simp, ?_, Or.inl ⟨?_, ?_⟩⟩ ?_)
  · rintro l a w i o ⟨hls, hcl, hJ⟩ hil ho hie
    have hi' : i < ops.size := (Array.getElem?_eq_some_iff.1 ho).1
    have hil' : l.getD i false = false := by rw [← getD_true_false (by omega)]; exact hil
    have hcl' := hcl.set hls ho hie
    have hall : n ≤ i → ∀ j, j < i → l.getD j false = true := fun hni j hj => waits_listed hcl j ops.size i o ho hie (tailOk_spec htl i hi' hni j hj)
    rcases hJ with ⟨hun, hJ⟩ | ⟨k, hnk, hlk, huk, hwp⟩
    · by_cases hin : i < n
      · obtain ⟨hw, hwp⟩ := step i o ho hin a w hJ.below hJ.defers hJ.tmps hJ.outer (fun j oj d hwt hoj hd => by
          obtain ⟨e, he, hej, hb⟩ := waitsFor_spec hwt
          have hji : j < i := by rw [← hej]; exact (regionOk_spec hok i o ho).1 e he
          refine hJ.facts j oj d hoj (by omega) (hej ▸ hie e he hb) (fun k hk hq => ?_) hd
          rcases killOk_spec hko i hin o ho e he hb k hk (by rw [hej]; exact hq) with rfl | hwk
          · exact hil'
          · cases hlk : l.getD k false with
            | false => rfl
            | true =>
              obtain ⟨ok, hok'⟩ : ∃ o, ops[k]? = some o := ⟨ops[k], Array.getElem?_eq_getElem hk⟩
              have := waits_listed hcl i ops.size k ok hok' (hcl k ok hok' hlk) hwk
              rw [this] at hil'; cases hil')
        unfold wpOp
        simp only [ho, hw, if_true]
        refine Or.inl (Oper.wp_mono ?_ hwp)
        rintro a' w' ⟨v, rfl, hb, hv, hk⟩
        exact ⟨by simp [hls], hcl', Or.inl ⟨fun j hj => by rw [getD_set_ne (by omega)]; exact hun j hj, hJ.put hok hls hcl hin ho hil' hb hv hk⟩⟩
      · have hin' : i = n := by
          by_cases e : i = n
          · exact e
          · have h1 := hall (by omega) n (by omega)
            rw [hun n (Nat.le_refl _)] at h1; cases h1
        subst hin'
        have H := tail a w hJ.below hJ.defers hJ.tmps hJ.outer (fun j oj d hoj hj hal hd => hJ.facts j oj d hoj hj (hall (Nat.le_refl _) j hj) (fun k _ hq => by
          by_cases hkn' : k < i
          · rw [hal k hkn'] at hq; cases hq
          · rw [hkn j k (by omega)] at hq; cases hq) hd)
        rw [hcons i o ho] at H
        have H' : wpOp P ops Q i (wpList P ops Q (ops.toList.drop (i + 1))) a w := by
          unfold wpOp
          simp only [ho]
          exact H
        refine wpOp_mono ?_ H'
        intro a' w' hQ
        refine ⟨by simp [hls], hcl', Or.inr ⟨i + 1, by omega, fun j hj hjs => ?_, fun j hj => by rw [getD_set_ne (by omega)]; exact hun j (by omega), hQ⟩⟩
        by_cases e : j = i
        · subst e; simp [Array.getD_eq_getD_getElem?, hls, hi']
        · rw [getD_set_ne e]; exact hall (Nat.le_refl _) j (by omega)
    · have hik : i = k := by
        have h1 : k ≤ i := by
          by_cases e : k ≤ i
          · exact e
          · have := hlk i (by omega) hi'
            rw [hil'] at this; cases this
        by_cases e : i = k
        · exact e
        · have h2 := hall (by omega) k (by omega)
          rw [huk k (Nat.le_refl _)] at h2; cases h2
      subst hik
      rw [hcons i o ho] at hwp
      have H' : wpOp P ops Q i (wpList P ops Q (ops.toList.drop (i + 1))) a w := by
        unfold wpOp
        simp only [ho]
        exact hwp
      refine wpOp_mono ?_ H'
      intro a' w' hQ
      refine ⟨by simp [hls], hcl', Or.inr ⟨i + 1, by omega, fun j hj hjs => ?_, fun j hj => by rw [getD_set_ne (by omega)]; exact huk j (by omega), hQ⟩⟩
      by_cases e : j = i
      · subst e; simp [Array.getD_eq_getD_getElem?, hls, hi']
      · rw [getD_set_ne e]; exact hlk j (by omega) hjs
  · rintro a w ⟨_, _, ⟨hun, _⟩ | ⟨k, _, _, huk, hwp⟩⟩
    · have := hun n (Nat.le_refl _)
      simp [Array.getD_eq_getD_getElem?, hlt] at this
    · have hk : ops.size ≤ k := by
        by_cases e : ops.size ≤ k
        · exact e
        · have := huk k (Nat.le_refl _)
          simp [Array.getD_eq_getD_getElem?, show k < ops.size by omega] at this
      rw [List.drop_eq_nil_of_le (by simpa using hk)] at hwp
      exact hwp
  · intro i o ho hl
    have hi := (Array.getElem?_eq_some_iff.1 ho).1
    simp [Array.getD_eq_getD_getElem?, hi] at hl
  · intro j _
    by_cases hj : j < ops.size <;> simp [Array.getD_eq_getD_getElem?, hj]
  · refine ⟨(Below.refl _ w0).drew, rfl, rfl, fun _ _ => rfl, ?_⟩
    intro i o d ho _ hl _ _
    have hi := (Array.getElem?_eq_some_iff.1 ho).1
    simp [Array.getD_eq_getD_getElem?, hi] at hl
  · exact Nat.le_trans (List.length_filter_le _ _) (by simp)
def StepsToK (P : Program) (ops : Array Oper) (n : Nat) (kl : Nat → Nat → Bool) (Q : Exit → Act → World → Prop) (Φ : Facts) (a0 : Act) (w0 : World) : Nat → List Oper → Prop
  | _, [] => True
  | i, o :: r => StepToK P ops n kl Q Φ a0 w0 i o ∧ StepsToK P ops n kl Q Φ a0 w0 (i + 1) r
theorem stepsToK_get {P : Program} {ops : Array Oper} {n : Nat} {kl : Nat → Nat → Bool} {Q : Exit → Act → World → Prop} {Φ : Facts} {a0 : Act} {w0 : World} : ∀ {l : List Oper} {k : Nat}, StepsToK P ops n kl Q Φ a0 w0 k l → ∀ i o, l[i]? = some o → StepToK P ops n kl Q Φ a0 w0 (k + i) o
  | [], _, _, i, o, h => by simp at h
  | x :: r, k, hs, i, o, h => by
    cases i with
    | zero => simp at h; subst h; exact hs.1
    | succ i =>
      have := stepsToK_get hs.2 i o (by simpa using h)
      rwa [show k + 1 + i = k + (i + 1) by omega] at this
theorem steps_toK {P : Program} {ops : Array Oper} {n : Nat} {kl : Nat → Nat → Bool} {Q : Exit → Act → World → Prop} {Φ : Facts} {a0 : Act} {w0 : World} (H : StepsToK P ops n kl Q Φ a0 w0 0 (ops.toList.take n)) : ∀ i o, ops[i]? = some o → i < n → StepToK P ops n kl Q Φ a0 w0 i o := by
  intro i o ho hi
  have := stepsToK_get H i o (by rw [List.getElem?_take_of_lt hi]; simpa using ho)
  rwa [Nat.zero_add] at this
theorem facts_toK {ops : Array Oper} {n : Nat} {kl : Nat → Nat → Bool} {Φ : Facts} {a : Act} {w : World} (hp : ∀ i o d, ops[i]? = some o → i < n → (∀ k, k < n → kl i k = false) → o.dst = some d → Φ i (a.tmps.getD d undef) w) (j d : Nat) (hj : j < n) (hk : ∀ k, k < n → kl j k = false) (h : dstAt ops j d = true) : Φ j (a.tmps.getD d undef) w := by
  obtain ⟨oj, h1, h2⟩ := dstAt_spec h
  exact hp j oj d h1 hj hk h2
theorem wp_append {o : Oper} {a : Act} {w w' : World} {v' sv xv : Value} {R : Act → World → Prop} {Q : Exit → Act → World → Prop} (s x : Operand) (t : TypeId) (ho : o.op = .call { callee := .builtin .append, args := #[s, x], argTypes := #[t, t] })
    (hs : a.eval s = sv) (hx : a.eval x = xv) (hr : (Builtin.append_ #[t, t] o.type #[sv, xv]).run Tryz.prog w = .ok v' w') (h : R (a.put o.dst v') w') : o.wp Tryz.prog a w R Q := by
  unfold Oper.wp execOp
  simp only [ho, resolve, invoke, builtin, Sem.run_bind, Sem.run_pure, Result.andThen_ok, List.map_toArray, List.map_cons, List.map_nil, hs, hx, hr]
  exact h
/-- Terms are appended to a new empty slice without room: the result is new, too. -/
theorem append_new (w : World) (N0 : Nat) (ty : TypeId) (g : Nat) (a : Option Addr) (m c : Nat) (news : List Value) (hn : news.length = m * 4) (ha : a = none → m = 0) (hc : ∀ ad, a = some ad → ∀ j u, news[j]? = some u → w.cell? (ad.add j) = some u)
    (hm : m ≤ 1000000) (hN : N0 ≤ w.heap.size) (h0 : w.ownsRow N0 32 4 (.slice (some ⟨g, 0, none⟩) 0 0) 0 []) :
    ∃ v' w', (Builtin.append_ #[30, 30] ty #[.slice (some ⟨g, 0, none⟩) 0 0, .slice a m c]).run Tryz.prog w = .ok v' w' ∧ w'.ownsRow N0 32 4 v' m news ∧ w.grownBy w' none := by
  obtain ⟨i0, hi, hz0, hz1, hz2⟩ := info_parts info_term
  by_cases h : m = 0
  · subst h
    have hn0 : news = [] := List.eq_nil_of_length_eq_zero (by simpa using hn)
    subst hn0
    refine ⟨_, w, ?_, h0, World.grownBy.refl _ _⟩
    cases a <;> simp [Builtin.append_, run_underlying Tryz.underlying30, sizeOf, typeInfo, hi, Builtin.lenOf, Builtin.firstCells, loadCells, loadCellsFrom, storeCells]
  · cases a with
    | none => exact absurd (ha rfl) h
    | some ad =>
      obtain ⟨v', w', hr, h1, h2⟩ := run_append_arg_grows (P := Tryz.prog) w 30 ty 32 i0 _ 4 56 Tryz.underlying30 hi hz0 hz1 hz2 rfl (by decide) ⟨g, 0, none⟩ 0 0 [] rfl (fun j u hj => by simp at hj) ad m c news hn (hc ad rfl) (by omega) (by unfold maxLen; omega) (by omega)
      exact ⟨v', w', hr, ownsRow_lower' (by simpa using h1) hN, h2⟩
theorem row_cells {ok : Nat → Prop} {w : World} {a : Option Addr} {n c : Nat} {ts : List Tm} (h : RowIn ok w (.slice a n c) ts) : n = ts.length ∧ ts.length ≤ maxLen ∧ ∃ xs, HoldL ok w xs ts ∧ (a = none → ts = []) ∧ ∀ ad, a = some ad → ∀ j u, xs[j]? = some u → ok ad.block ∧ w.cell? (ad.add j) = some u := by
  obtain ⟨a', c', e, hl, hr⟩ := h
  simp only [Value.slice.injEq] at e
  obtain ⟨rfl, rfl, rfl⟩ := e
  refine ⟨rfl, hl, ?_⟩
  by_cases ht : ts = []
  · subst ht
    exact ⟨[], rfl, fun _ => rfl, fun ad _ j u hu => by simp at hu⟩
  · obtain ⟨b, off, rfl, hb, hi⟩ := hr ht
    obtain ⟨xs, h1, h2⟩ := HoldL.of_tms hi
    refine ⟨xs, h1, (fun e => by cases e), fun ad e j u hu => ?_⟩
    cases e
    refine ⟨hb, ?_⟩
    rw [Addr.add_lit]
    exact h2 j u hu
theorem vals_at {ex : Option Nat} {B : Nat} {w : World} {a : Option Addr} {n c : Nat} {ts : List Tm} (h : Vals ex B w (.slice a n c) ts) (q : Nat) (hq : q < ts.length) :
    ∃ g c0 c1 c2 c3, a = some ⟨g, 0, none⟩ ∧ B ≤ g ∧ g < w.heap.size ∧ w.cell? ⟨g, q * 4, none⟩ = some c0 ∧ w.cell? ⟨g, q * 4 + 1, none⟩ = some c1 ∧ w.cell? ⟨g, q * 4 + 2, none⟩ = some c2 ∧ w.cell? ⟨g, q * 4 + 3, none⟩ = some c3 ∧ IsTmIn (fun b => B ≤ b ∧ b < w.heap.size) w c0 c1 c2 c3 ts[q] := by
  obtain ⟨xs, ho, hh, _⟩ := h
  obtain ⟨g, rfl⟩ : ∃ g, a = some ⟨g, 0, none⟩ := by
    rcases ho.2 with ⟨_, h0⟩ | ⟨g, cap, cur, h1, _⟩
    · omega
    · simp only [Value.slice.injEq] at h1
      exact ⟨g, h1.1⟩
  obtain ⟨c0, c1, c2, c3, e0, e1, e2, e3, hi⟩ := hh.at q hq
  have hc : ∀ j u, xs[j]? = some u → w.cell? ⟨g, j, none⟩ = some u := fun j u hu => by
    have := ho.cells (g := g) rfl j u hu
    rwa [Addr.add_lit, Nat.zero_add] at this
  exact ⟨g, c0, c1, c2, c3, rfl, (ho.lt g rfl).1, (ho.lt g rfl).2, hc _ _ e0, hc _ _ e1, hc _ _ e2, hc _ _ e3, hi.keep fun b hf => ⟨⟨hf.1, hf.2.1⟩, rfl⟩⟩

/-- What the operations of the row's region stand for. -/
def FP (N0 : Nat) (V8 V4 : Value) (gR r : Nat) (U V6 : Value) (gL q : Nat) (A : Value) (CS : Array Value) (xs : List Value) (n : Nat) : Facts := fun i v w => match i with
  | 0 => v = V8
  | 1 => ∃ g, v = .slice (some ⟨g, 0, none⟩) 0 0 ∧ w.ownsRow N0 32 4 v 0 []
  | 2 => v = V4
  | 3 => v = .int .i64 r
  | 4 => v = .pointer (some ⟨gR, r, none⟩)
  | 5 => v = U
  | 6 => w.ownsRow N0 32 4 v n xs
  | 7 => v = V6
  | 8 => v = .int .i64 q
  | 9 => v = .pointer (some ⟨gL, q * 4, none⟩)
  | 10 => v = A
  | 11 => ∃ g, v = .slice (some ⟨g, 0, none⟩) 1 1 ∧ w.heap[g]? = some (.cells CS 32 (0, 0))
  | 12 => w.ownsRow N0 32 4 v (n + 1) (xs ++ CS.toList)
  | 13 => ∃ g u, v = .slice (some ⟨g, 0, none⟩) 1 1 ∧ N0 ≤ g ∧ w.heap[g]? = some (.cells #[u] 30 (0, 0)) ∧ w.ownsRow N0 32 4 u (n + 1) (xs ++ CS.toList)
  | _ => True
theorem FP_grow {N0 : Nat} {V8 V4 : Value} {gR r : Nat} {U V6 : Value} {gL q : Nat} {A : Value} {CS : Array Value} {xs : List Value} {n : Nat} (i : Nat) (v : Value) (w w' : World) (h : FP N0 V8 V4 gR r U V6 gL q A CS xs n i v w) (hb : Below w.heap.size w w') : FP N0 V8 V4 gR r U V6 gL q A CS xs n i v w' := by
  have blk : ∀ {g : Nat} {o : Obj}, w.heap[g]? = some o → w'.heap[g]? = some o := fun {g o} hg => (hb.block g (Array.getElem?_eq_some_iff.1 hg).1).trans hg
  match i, h with
  | 0, h => exact h
  | 1, ⟨g, h1, h2⟩ => exact ⟨g, h1, own_grown h2 hb⟩
  | 2, h => exact h
  | 3, h => exact h
  | 4, h => exact h
  | 5, h => exact h
  | 6, h => exact own_grown h hb
  | 7, h => exact h
  | 8, h => exact h
  | 9, h => exact h
  | 10, h => exact h
  | 11, ⟨g, h1, h2⟩ => exact ⟨g, h1, blk h2⟩
  | 12, h => exact own_grown h hb
  | 13, ⟨g, u, h1, h2, h3, h4⟩ => exact ⟨g, u, h1, h2, blk h3, own_grown h4 hb⟩
  | i + 14, _ => trivial
def klP (j k : Nat) : Bool := k == 12 && (j == 1 || j == 6 || j == 11)
theorem flat_len {α β : Type} (l : List β) (f : List α → β → List α) : ∀ R : List (List α), (R.flatMap fun r => l.map fun x => f r x).length = R.length * l.length
  | [] => by simp
  | r :: R => by
    rw [List.flatMap_cons, List.length_append, flat_len l f R, List.length_map, List.length_cons, Nat.add_mul]
    omega
theorem slots_mergeP {P : Nat → Bool} {a : Array Value} {l : List Value} (m : List Bool) (n : Nat) (hs : a.size = l.toArray.size) (hn : l.length = n) (hm : (List.range n).map (fun t => !(P t)) = m)
    (ho : ∀ t, P t = true → a.getD t undef = l.toArray.getD t undef) : a = (mergeFrom a 0 m l).toArray := by
  have hml : m.length = l.length := by rw [← hm, hn]; simp
  apply Array.ext
  · have h1 : (mergeFrom a 0 m l).toArray.size = l.length := by simp [merge_length a m l 0 hml]
    have h2 : a.size = l.length := by simpa using hs
    omega
  · intro i h1 h2
    have hi : i < l.length := by simpa [merge_length a m l 0 hml] using h2
    have := merge_at a m l 0 hml (fun j hj => by
      rw [← hm, List.getElem?_map] at hj
      have hjn : j < n := by
        apply Decidable.byContradiction; intro hc
        rw [List.getElem?_eq_none (by simpa using hc)] at hj; cases hj
      rw [List.getElem?_range hjn] at hj
      simp only [Option.map_some, Option.some.injEq, Bool.not_eq_false'] at hj
      have h3 := ho j hj
      rw [Nat.zero_add, h3]
      have : j < l.length := by omega
      simp [Array.getD_eq_getD_getElem?, this]) i hi
    rw [Nat.zero_add] at this
    have h4 := List.getElem?_eq_getElem (l := mergeFrom a 0 m l) (i := i) (by simpa using h2)
    rw [h4] at this
    have h5 : (mergeFrom a 0 m l)[i] = a.getD i undef := by simpa using this
    simp only [List.getElem_toArray]
    rw [h5]
    simp [Array.getD_eq_getD_getElem?, h1]
theorem spanRows_app : ∀ (xs ys : List (List Tm)) (out : List Tm), spanRows (xs ++ ys) out = (spanRows xs out).bind (spanRows ys)
  | [], ys, out => rfl
  | c :: cs, ys, out => by
    simp only [List.cons_append, spanRows]
    cases rowSpan c with
    | none => exact spanRows_app cs ys out
    | some ab =>
      obtain ⟨a, b⟩ := ab
      simp only
      split
      · rfl
      · exact spanRows_app cs ys _
def outR (k n : Int) (s : ByteArray) (rows : List (List Tm)) : Option (List Tm) := if k = 6 then spanRows rows [] else some (rows.map fun c => .mk k n s c)
theorem outR_take {k n : Int} {s : ByteArray} {R : List (List Tm)} {r : Nat} (hr : r < R.length) {out : List Tm} (h : outR k n s (R.take r) = some out) :
    outR k n s (R.take (r + 1)) = if k = 6 then spanRows [R[r]] out else some (out ++ [.mk k n s R[r]]) := by
  unfold outR at *
  rw [List.take_succ_eq_append_getElem hr]
  by_cases h6 : k = 6
  · rw [if_pos h6] at *
    rw [if_pos h6, spanRows_app, h]; rfl
  · rw [if_neg h6] at *
    rw [if_neg h6, List.map_append]
    cases h; rfl
theorem num_depth (l : List Int) : ∀ x ∈ l.map numT, x.depth = 1 := by
  intro x hx
  obtain ⟨z, _, rfl⟩ := List.mem_map.1 hx
  rfl
theorem spanRows_depth : ∀ {rows : List (List Tm)} {out all : List Tm}, spanRows rows out = some all → (∀ x ∈ out, x.depth = 1) → ∀ x ∈ all, x.depth = 1 := by
  intro rows out all h ho x hx
  rcases (spanRows_mem h x).1 hx with h1 | ⟨c, _, a, b, _, h3⟩
  · exact ho x h1
  · exact num_depth _ x h3
theorem depthL_le {m : Nat} : ∀ {ts : List Tm}, (∀ t ∈ ts, t.depth ≤ m) → Tm.depthL ts ≤ m
  | [], _ => Nat.zero_le _
  | t :: ts, h => by
    simp only [Tm.depthL]
    exact Nat.max_le.2 ⟨h t (by simp), depthL_le fun x hx => h x (List.mem_cons_of_mem _ hx)⟩
theorem depth_memL : ∀ {ts : List Tm} {t : Tm}, t ∈ ts → t.depth ≤ Tm.depthL ts
  | a :: ts, t, h => by
    simp only [Tm.depthL]
    rcases List.mem_cons.1 h with rfl | h
    · exact Nat.le_max_left _ _
    · exact Nat.le_trans (depth_memL h) (Nat.le_max_right _ _)
theorem plain_depth (t : Tm) : ∀ all, plainM t = some all → ∀ x ∈ all, x.depth ≤ t.depth := by
  induction t using Tm.ind with
  | h k n s args ih =>
    intro all hp x hx
    simp only [plainM, Option.bind_eq_some_iff] at hp
    obtain ⟨rows, hrows, out, hout, hp⟩ := hp
    split at hp
    case isFalse => cases hp
    cases hp
    simp only [Tm.depth]
    split at hout
    · have := spanRows_depth hout (fun x hx => by cases hx) x hx
      omega
    · cases hout
      obtain ⟨c, hc, rfl⟩ := List.mem_map.1 hx
      obtain ⟨ls, h1, h2, rfl⟩ := plain_rows hrows
      simp only [Tm.depth]
      have : Tm.depthL c ≤ Tm.depthL args := depthL_le fun y hy => by
        obtain ⟨i, hi, rfl⟩ := List.mem_iff_getElem.1 hy
        have hm := (combos_mem ls c).1 hc
        exact Nat.le_trans (ih args[i] (List.getElem_mem (by omega)) _ (h2 i (by omega) (by omega)) _ (hm.2 i hi (by omega))) (depth_memL (List.getElem_mem (by omega)))
      omega
theorem plainR_depth {ts : List Tm} {R : List (List Tm)} (h : plainR ts [[]] = some R) : ∀ c ∈ R, ∀ x ∈ c, x.depth ≤ Tm.depthL ts := by
  intro c hc x hx
  obtain ⟨ls, h1, h2, rfl⟩ := plain_rows h
  obtain ⟨i, hi, rfl⟩ := List.mem_iff_getElem.1 hx
  have hm := (combos_mem ls c).1 hc
  exact Nat.le_trans (plain_depth ts[i] _ (h2 i (by omega) (by omega)) _ (hm.2 i hi (by omega))) (depth_memL (List.getElem_mem (by omega)))
theorem two_of {α : Type} {l : List α} (h : l.length = 2) : ∃ x y, l = [x, y] := by
  match l, h with
  | [x, y], _ => exact ⟨x, y, rfl⟩
theorem evRes_none {t : Tm} {B : Nat} {w' : World} {d0 d1 d2 d3 : Value} {b : Bool} (h : EvRes t B w' d0 d1 d2 d3 b) (hx : evalT t = none) : b = false ∧ d0 = .int .u8 0 ∧ d1 = .int .i64 0 ∧ d2 = .string ⟨#[]⟩ ∧ d3 = .slice none 0 0 := by
  rcases h with ⟨_, h⟩ | ⟨u, hu, _⟩
  · exact h
  · rw [hx] at hu; cases hu
theorem evRes_some {t : Tm} {B : Nat} {w' : World} {d0 d1 d2 d3 : Value} {b : Bool} {k n : Int} {s : ByteArray} {us : List Tm} (h : EvRes t B w' d0 d1 d2 d3 b) (hx : evalT t = some (.mk k n s us)) :
    b = true ∧ ∃ (a : Option Addr) (l c : Nat), d0 = .int .u8 k ∧ d1 = .int .i64 n ∧ d2 = .string s ∧ d3 = .slice a l c := by
  rcases h with ⟨h, _⟩ | ⟨u, hu, hb, hi⟩
  · rw [hx] at h; cases h
  · rw [hx] at hu
    cases hu
    simp only [IsTmIn] at hi
    obtain ⟨h0, _, h1, _, h2, _, a, c, h3, _⟩ := hi
    exact ⟨hb, a, _, c, h0, h1, h2, h3⟩
theorem eval_num {t v : Tm} (h : evalT t = some v) (hk : v.kind = 1) : -2147483647 ≤ v.num ∧ v.num ≤ 2147483647 := by
  have h1 := evalT_isValue h
  have h2 : (v.nodes 1).all nodeOkB = true := by
    unfold Tm.valueB at h1
    simp only [Bool.and_eq_true] at h1
    exact h1.1
  exact outB_false.1 (int_value h2 hk).2
theorem wpList_append_terms {ops : Array Oper} {rest : List Oper} {o : Oper} {a : Act} {Q : Exit → Act → World → Prop} {w : World} (hgd : o.guard = none) (s x : Operand)
    (ho : o.op = .call { callee := .builtin .append, args := #[s, x], argTypes := #[30, 30] }) (base : Nat) (v : Value) (n : Nat) (xs : List Value) (hs : a.eval s = v) (hown : w.ownsRow base 32 4 v n xs)
    {B : Nat} (u : Value) (m : Nat) (ys : List Value) (hu : a.eval x = u) (hsrc : w.ownsRow B 32 4 u m ys) (h1 : ∀ y ∈ ys, y.oneCell' = true) (hl : n + m ≤ 1000000) (hbase : base ≤ w.heap.size)
    (h : ∀ v' w', w'.ownsRow base 32 4 v' (n + m) (xs ++ ys) → w.grownBy w' v.ownBlock → (v'.ownBlock = v.ownBlock ∨ v'.ownBlock = some w.heap.size) → wpList Tryz.prog ops Q rest (a.put o.dst v') w') : wpList Tryz.prog ops Q (o :: rest) a w := by
  obtain ⟨i0, hi, hz0, hz1, hz2⟩ := info_parts info_term
  have hsrc0 := hsrc
  rcases hsrc.2 with ⟨rfl, rfl⟩ | ⟨g, cap, cur, rfl, _, hg, _, _, _, _⟩
  · refine wpList_plain hgd fun K hK => ?_
    have hr := run_append_owned_none (P := Tryz.prog) (w := w) base 30 o.type 32 i0 4 Tryz.underlying30 hi v n xs hown
    have hy : ys = [] := List.eq_nil_of_length_eq_zero (by simpa using hsrc0.1)
    subst hy
    unfold Oper.wp execOp
    simp only [ho, resolve, invoke, builtin, Sem.run_bind, Sem.run_pure, Result.andThen_ok, List.map_toArray, List.map_cons, List.map_nil, hs, hu, hr]
    exact hK _ _ (h v w (by simpa using hown) ⟨rfl, rfl, rfl, Nat.le_refl _, fun _ _ _ => rfl⟩ (Or.inl rfl))
  · exact wpList_append_own_at w hgd s x 30 ho base 32 i0 _ 4 56 Tryz.underlying30 hi hz0 hz1 hz2 rfl (by decide) v n xs hs hown ⟨g, 0, none⟩ m cap ys hu hsrc0.1 (fun j y hj => hsrc0.cells (g := g) rfl j y hj) h1 (by unfold maxLen; omega) (by omega) hbase
      (fun v' w' h2 h3 _ h5 => h v' w' h2 h3 h5)
/-- What plain gives. -/
def PlainQ (t : Tm) (w : World) (e : Ending) (w' : World) : Prop := ∃ v b, e = .returned (.tuple #[v, .bool b]) ∧ Below w.heap.size w w' ∧ (b = true → ∃ all, plainM t = some all ∧ Vals none w.heap.size w' v all)
def PlainAt (t : Tm) : Prop := ∀ (c0 c1 c2 c3 : Value) (w : World), IsTm w.heap.size w c0 c1 c2 c3 t → t.Wf → t.count ≤ 60 → Calls Tryz.prog 17 #[.agg #[c0, c1, c2, c3]] w (PlainQ t w)

theorem lists_one {w : World} {base : Nat} (hb : base ≤ w.heap.size) : ListsT base (w.alloc (.cells #[.slice none 0 0] 30)) (.slice (some ⟨w.heap.size, 0, none⟩) 1 1) [[]] := by
  refine ⟨[.slice none 0 0], World.ownsRow_lit w #[.slice none 0 0] 1 hb (by unfold maxLen; omega) rfl, fun i hi => ?_⟩
  have : i = 0 := by simpa using hi
  subst this
  exact ⟨_, rfl, none, 0, rfl, Nat.zero_le _, fun h => absurd rfl h⟩
theorem count_arg {k n : Int} {s : ByteArray} : ∀ {us : List Tm} {m : Nat}, Tm.countL us ≤ m → ∀ t ∈ us, t.count ≤ m
  | a :: us, m, h, t, ht => by
    simp only [Tm.countL] at h
    rcases List.mem_cons.1 ht with rfl | ht
    · omega
    · exact count_arg (k := k) (n := n) (s := s) (by omega) t ht

theorem ListsT.shape {base : Nat} {w : World} {v : Value} {ls : List (List Tm)} (h : ListsT base w v ls) : ∃ a c, v = .slice a ls.length c := by
  obtain ⟨_, ⟨_, ⟨rfl, hn⟩ | ⟨g, cap, _, rfl, _⟩⟩, _⟩ := h
  · exact ⟨none, 0, by rw [hn]⟩
  · exact ⟨_, _, rfl⟩
theorem Vals.shape {ex : Option Nat} {base : Nat} {w : World} {v : Value} {ts : List Tm} (h : Vals ex base w v ts) : ∃ a c, v = .slice a ts.length c := by
  obtain ⟨a, c, hv, _⟩ := h.tms
  exact ⟨a, c, hv⟩

set_option maxRecDepth 100000 in
set_option maxHeartbeats 40000000 in
theorem plain_at (t : Tm) : PlainAt t := by
  induction t using Tm.ind with
  | h k n s us ih =>
    intro c0 c1 c2 c3 w hT0 hwf hcn
    have hT1 := hT0
    simp only [IsTm] at hT1
    obtain ⟨rfl, hk0, rfl, hn0, rfl, hs0, a, cap, rfl, hl, hargs⟩ := hT1
    simp only [Tm.Wf] at hwf
    obtain ⟨h8, hw4, hw5, hw6, hw1, hwl⟩ := hwf
    simp only [Tm.count] at hcn
    have IH := Lib.hid ih
    have HT := Lib.hid hT0
    have HA := Lib.hid hargs
    have HWL := Lib.hid hwl
    have HCN := Lib.hid hcn
    have HK0 := Lib.hid hk0
    have HN0 := Lib.hid hn0
    have HS0 := Lib.hid hs0
    have HW6 := Lib.hid hw6
    clear ih hT0 hargs hwl hcn hk0 hn0 hs0 hw6 hw4 hw5 hw1
    have hB0 : Below w.heap.size w ((w.alloc (.cells #[.int .u8 k, .int .i64 n, .string s, .slice a us.length cap] 32)).alloc (.cells #[.slice none 0 0] 30)) := ((Below.refl _ w).alloc (Nat.le_refl _) _).alloc (by simp) _
    have r1 : Row4 w.heap.size #[.int .u8 k, .int .i64 n, .string s, .slice a us.length cap] ((w.alloc (.cells #[.int .u8 k, .int .i64 n, .string s, .slice a us.length cap] 32)).alloc (.cells #[.slice none 0 0] 30)) := (Row4.new w _).grow ((Below.refl _ _).alloc (Nat.le_refl _) _)
    have hL0 : ListsT w.heap.size ((w.alloc (.cells #[.int .u8 k, .int .i64 n, .string s, .slice a us.length cap] 32)).alloc (.cells #[.slice none 0 0] 30)) (.slice (some ⟨(w.alloc (.cells #[.int .u8 k, .int .i64 n, .string s, .slice a us.length cap] 32)).heap.size, 0, none⟩) 1 1) [[]] := lists_one (by simp)
    have hsz : (w.alloc (.cells #[.int .u8 k, .int .i64 n, .string s, .slice a us.length cap] 32)).heap.size = w.heap.size + 1 := by simp
    rw [hsz] at hL0
    go_enter Tryz.func17, Tryz.ntmps17
    go_wp2_with fail
    go_loopw [4, 5] (fun v i wr => ∃ (j : Nat) (R : List (List Tm)), j ≤ us.length ∧ i = .int .i64 j ∧ plainR (us.take j) [[]] = some R ∧ ListsT w.heap.size wr v R ∧ Below w.heap.size w wr ∧ Row4 w.heap.size #[.int .u8 k, .int .i64 n, .string s, .slice a us.length cap] wr) (fun _ i _ => us.length - (intOf i).toNat)
    case atStart => exact ⟨0, [[]], by omega, by go_num, rfl, hL0, hB0, r1⟩
    case round =>
      obtain ⟨j, R, hj, rfl, hR, hLT, hBr, hRw⟩ := hrel
      have HLT := Lib.hid hLT
      have HR := Lib.hid hR
      have HBr := Lib.hid hBr
      have Q1 := Lib.hid hRw
      clear hLT hR hBr hRw hB0 r1 hL0
      have i1 : (0 : Int) ≤ (j : Int) := by omega
      have x0 := cells_at Q1.out 0 _ rfl
      have x1 := cells_at Q1.out 1 _ rfl
      have x2 := cells_at Q1.out 2 _ rfl
      have x3 := cells_at Q1.out 3 _ rfl
      by_cases hjl : j < us.length
      · have i2 : (j : Int) < (us.length : Int) := by omega
        obtain ⟨bb, off, rfl, hbl, hI⟩ := HA.out (by intro e; rw [e] at hjl; simp at hjl)
        obtain ⟨c0, c1, c2, c3, t0, t1, t2, t3, hc⟩ := hI.at j hjl
        have g0 := (HBr.out.cell (p := ⟨bb, off + j * 4, none⟩) hbl).trans t0
        have g1 := (HBr.out.cell (p := ⟨bb, off + j * 4 + 1, none⟩) hbl).trans t1
        have g2 := (HBr.out.cell (p := ⟨bb, off + j * 4 + 2, none⟩) hbl).trans t2
        have g3 := (HBr.out.cell (p := ⟨bb, off + j * 4 + 3, none⟩) hbl).trans t3
        have HC := Lib.hid (IH.out us[j] (List.getElem_mem hjl) c0 c1 c2 c3 wr ((hc.below HBr.out).mono HBr.out.size) (Tm.WfL_mem HWL.out (List.getElem_mem hjl)) (by have := count_arg (k := k) (n := n) (s := s) (m := 59) (us := us) (by have := HCN.out; omega) us[j] (List.getElem_mem hjl); omega))
        clear t0 t1 t2 t3 hc hI
        go_wp2_with (go_at_call 17; refine HC.out.mono ?_)
        rintro e V1 ⟨lv, lb, rfl, b, hlv⟩
        have Q2 := Lib.hid (Q1.out.grow b)
        have HBV := Lib.hid (HBr.out.trans (b.mono HBr.out.size))
        have HLV := Lib.hid (HLT.out.grow b)
        clear b Q1 HLT x0 x1 x2 x3 g0 g1 g2 g3 HC
        obtain ⟨ra, rc, rfl⟩ := HLV.out.shape
        cases lb with
        | false =>
          go_wp2
          go_ret2
          exact ⟨_, false, rfl, HBV.out, fun h => by cases h⟩
        | true =>
          obtain ⟨l, hpl, hvl⟩ := hlv rfl
          obtain ⟨la, lc, rfl⟩ := hvl.shape
          have hl300 := plainM_len hpl
          have hR300 := (plainR_len HR.out (m := 0) (by simp) (by simp)).1
          have HPL := Lib.hid hpl
          have HVL := Lib.hid (hvl.lower HBr.out.size)
          have HRL := Lib.hid (show ∀ c ∈ R, c.length ≤ 8 from fun c hc => by
            have h1 := (plainR_len HR.out (m := 0) (by simp) (by simp)).2 c hc
            rw [List.length_take] at h1
            omega)
          have HQL := Lib.hid hl300
          have HQR := Lib.hid hR300
          obtain ⟨PR, hPR⟩ : ∃ z : Nat, R.length * l.length = z := ⟨_, rfl⟩
          have hPI : (R.length : Int) * (l.length : Int) = (PR : Int) := by rw [← hPR, Int.natCast_mul]
          have hPb : PR ≤ 90000 := by rw [← hPR]; exact Nat.mul_le_mul hR300 hl300
          have hwr : IntKind.i64.wrap ((R.length : Int) * (l.length : Int)) = (PR : Int) := by rw [hPI]; exact IntWalk.i64_in _ (by omega)
          clear hpl hvl hlv
          by_cases hbig : 300 < PR
          · have hb1 : (300 : Int) < (PR : Int) := by omega
            clear hPI
            go_wp2
            go_ret2
            exact ⟨_, false, rfl, HBV.out, fun h => by cases h⟩
          · have hb1 : ¬ (300 : Int) < (PR : Int) := by omega
            clear hPI
            have HNX := Lib.hid (show plainR (us.take (j + 1)) [[]] = some (R.flatMap fun r => l.map fun x => r ++ [x]) by
              rw [plainR_take hjl, HR.out]
              simp only [Option.bind_some, HPL.out, hPR, if_neg hbig])
            clear HR HPL
            go_wp2_with fail
            go_loopw [8, 9] (fun v8 i wr => ∃ r : Nat, r ≤ R.length ∧ i = .int .i64 r ∧ ListsT w.heap.size wr v8 ((R.take r).flatMap fun r => l.map fun x => r ++ [x]) ∧ (∀ g, v8.ownBlock = some g → V1.heap.size ≤ g) ∧ Below V1.heap.size V1 wr) (fun _ i _ => R.length - (intOf i).toNat)
            case atStart => exact ⟨0, by omega, by go_num, ListsT.nil _ _, fun g e => (by cases e), Below.refl _ _⟩
            case round =>
              obtain ⟨r, hr, rfl, hL8, hg8, hB8⟩ := hrel
              have HL8 := Lib.hid hL8
              have HG8 := Lib.hid hg8
              have HB8 := Lib.hid hB8
              clear hL8 hg8 hB8
              have j1 : (0 : Int) ≤ (r : Int) := by omega
              by_cases hrl : r < R.length
              · have j2 : (r : Int) < (R.length : Int) := by omega
                go_wp2_with fail
                go_loopw [8, 10] (fun v8 i wr => ∃ q : Nat, q ≤ l.length ∧ i = .int .i64 q ∧ ListsT w.heap.size wr v8 (((R.take r).flatMap fun r => l.map fun x => r ++ [x]) ++ (l.take q).map fun x => R[r] ++ [x]) ∧ (∀ g, v8.ownBlock = some g → V1.heap.size ≤ g) ∧ Below V1.heap.size V1 wr) (fun _ i _ => l.length - (intOf i).toNat)
                case atStart => exact ⟨0, by omega, by go_num, by simpa using HL8.out, HG8.out, HB8.out⟩
                case round =>
                  obtain ⟨q, hq, rfl, hL9, hg9, hB9⟩ := hrel
                  have HL9 := Lib.hid hL9
                  have HG9 := Lib.hid hg9
                  have HB9 := Lib.hid hB9
                  clear hL9 hg9 hB9 HL8 HG8 HB8
                  have m1 : (0 : Int) ≤ (q : Int) := by omega
                  by_cases hql : q < l.length
                  · have m2 : (q : Int) < (l.length : Int) := by omega
                    go_wp2_with fail
                    obtain ⟨vsR, hOR, hRR0⟩ := HLV.out
                    obtain ⟨U, hU, hUI⟩ := hRR0 r hrl
                    obtain ⟨ua, un, uc, rfl⟩ : ∃ ua un uc, U = .slice ua un uc := by obtain ⟨_, _, e, _⟩ := hUI; exact ⟨_, _, _, e⟩
                    obtain ⟨rfl, hrm, xs, hxh, hxn, hxc⟩ := row_cells hUI
                    have hr8 := HRL.out R[r] (List.getElem_mem hrl)
                    obtain ⟨gR, rfl⟩ : ∃ gR, ra = some ⟨gR, 0, none⟩ := by
                      rcases hOR.2 with ⟨_, h0⟩ | ⟨g, cap, cur, h1, _⟩
                      · omega
                      · simp only [Value.slice.injEq] at h1
                        exact ⟨g, h1.1⟩
                    have hgR := (hOR.lt gR rfl).2
                    have hUc : V1.cell? ⟨gR, r, none⟩ = some (.slice ua R[r].length uc) := by
                      have := hOR.cells (g := gR) rfl r _ hU
                      rwa [Addr.add_lit, Nat.zero_add] at this
                    obtain ⟨gL, d0, d1, d2, d3, rfl, _, hgL, y0, y1, y2, y3, hI⟩ := vals_at HVL.out q hql
                    have hI2 := hI
                    obtain ⟨tq, htq⟩ : ∃ tq, l[q] = tq := ⟨_, rfl⟩
                    rw [htq] at hI hI2
                    obtain ⟨k2, n2, s2, us2⟩ := tq
                    simp only [IsTmIn] at hI2
                    obtain ⟨rfl, _, rfl, _, rfl, _, a2, c2, rfl, _, _⟩ := hI2
                    have HI := Lib.hid hI
                    have HTQ := Lib.hid htq
                    have HXH := Lib.hid hxh
                    have HXN := Lib.hid hxn
                    have HXC := Lib.hid hxc
                    have HUC := Lib.hid hUc
                    have HY := Lib.hid (And.intro y0 (And.intro y1 (And.intro y2 y3)))
                    have zV := HB9.out.size
                    have hxl : xs.length = R[r].length * 4 := hxh.len
                    have HX1 := Lib.hid (oneCells hxh)
                    clear hI htq hxh hxn hxc hUc y0 y1 y2 y3 hOR hUI hU hRR0
                    obtain ⟨vs8, hO8, hR8⟩ := HL9.out
                    have HO8 := Lib.hid hO8
                    have HR8 := Lib.hid hR8
                    clear hO8 hR8
                    obtain ⟨RR, hRR⟩ : ∃ RR, R[r] = RR := ⟨_, rfl⟩
                    rw [hRR] at hr8 hrm hxl HXH HXN HUC
                    have HRR := Lib.hid hRR
                    clear hRR
                    obtain ⟨m8, hm8⟩ : ∃ m8, RR.length = m8 := ⟨_, rfl⟩
                    rw [hm8] at hr8 hrm hxl HUC
                    clear HL9
                    refine wp_region_kill_tail (by kernel_rfl) 14 klP (FP wr.heap.size u8 (.slice (some ⟨gR, 0, none⟩) R.length rc) gR r (.slice ua m8 uc) (.slice (some ⟨gL, 0, none⟩) l.length lc) gL q (.agg #[.int .u8 k2, .int .i64 n2, .string s2, .slice a2 us2.length c2]) #[.int .u8 k2, .int .i64 n2, .string s2, .slice a2 us2.length c2] xs m8) (by kernel_rfl) (by kernel_rfl) (by kernel_rfl) (steps_toK ?_) ?_ (fun i k hk => by unfold klP; rw [show (k == 12) = false by simpa using (by omega : k ≠ 12)]; rfl)
                    · simp only [List.take_succ_cons, List.take_zero]
                      refine ⟨?_, ?_, ?_, ?_, ?_, ?_, ?_, ?_, ?_, ?_, ?_, ?_, ?_, ?_, trivial⟩
                      · intro a wx hb hd hs ho hp
                        refine ⟨rfl, ?_⟩
                        have h8 : a.tmps.getD 8 undef = u8 := (ho 8 (by kernel_rfl)).trans rfl
                        unfold Oper.wp
                        go_simp
                        exact SteppedK.at rfl hd hb.size (Below.refl _ _) rfl FP_grow
                      · intro a wx hb hd hs ho hp
                        refine ⟨rfl, ?_⟩
                        unfold Oper.wp
                        go_simp
                        exact SteppedK.at rfl hd hb.size ((Below.refl _ _).alloc (Nat.le_refl _) _) ⟨_, rfl, World.ownsRow_lit wx #[] 0 hb.size (by unfold maxLen; omega) rfl⟩ FP_grow
                      · intro a wx hb hd hs ho hp
                        refine ⟨rfl, ?_⟩
                        have h4 : a.tmps.getD 4 undef = .slice (some ⟨gR, 0, none⟩) R.length rc := (ho 4 (by kernel_rfl)).trans rfl
                        unfold Oper.wp
                        go_simp
                        exact SteppedK.at rfl hd hb.size (Below.refl _ _) rfl FP_grow
                      · intro a wx hb hd hs ho hp
                        refine ⟨rfl, ?_⟩
                        have h9 : a.tmps.getD 9 undef = .int .i64 r := (ho 9 (by kernel_rfl)).trans rfl
                        unfold Oper.wp
                        go_simp
                        exact SteppedK.at rfl hd hb.size (Below.refl _ _) rfl FP_grow
                      · intro a wx hb hd hs ho hp
                        refine ⟨rfl, ?_⟩
                        have h59 : a.tmps.getD 59 undef = .slice (some ⟨gR, 0, none⟩) R.length rc := facts_at hp 2 59 (by kernel_rfl)
                        have h60 : a.tmps.getD 60 undef = .int .i64 r := facts_at hp 3 60 (by kernel_rfl)
                        unfold Oper.wp
                        go_simp
                        exact SteppedK.at (v := .pointer (some ⟨gR, r, none⟩)) (by first | rfl | simp) hd hb.size (Below.refl _ _) rfl FP_grow
                      · intro a wx hb hd hs ho hp
                        refine ⟨rfl, ?_⟩
                        have h61 : a.tmps.getD 61 undef = .pointer (some ⟨gR, r, none⟩) := facts_at hp 4 61 (by kernel_rfl)
                        have x0 := ((HB9.out.trans (hb.mono zV)).cell (p := ⟨gR, r, none⟩) hgR).trans HUC.out
                        unfold Oper.wp
                        go_simp
                        exact SteppedK.at rfl hd hb.size (Below.refl _ _) rfl FP_grow
                      · intro a wx hb hd hs ho hp
                        refine ⟨rfl, ?_⟩
                        obtain ⟨g58, h58, hO58⟩ : FP wr.heap.size u8 (.slice (some ⟨gR, 0, none⟩) R.length rc) gR r (.slice ua m8 uc) (.slice (some ⟨gL, 0, none⟩) l.length lc) gL q (.agg #[.int .u8 k2, .int .i64 n2, .string s2, .slice a2 us2.length c2]) #[.int .u8 k2, .int .i64 n2, .string s2, .slice a2 us2.length c2] xs m8 1 (a.tmps.getD 58 undef) wx := facts_at hp 1 58 (by kernel_rfl)
                        have h62 : a.tmps.getD 62 undef = .slice ua m8 uc := facts_at hp 5 62 (by kernel_rfl)
                        rw [h58] at hO58
                        have hbV := HB9.out.trans (hb.mono zV)
                        obtain ⟨v', w', hrun, hown, hgr⟩ := append_new wx wr.heap.size _ g58 ua m8 uc xs hxl (fun e => by rw [← hm8, HXN.out e]; rfl) (fun ad e j u hj => by
                          obtain ⟨hk, hc⟩ := HXC.out ad e j u hj
                          have hlt : (ad.add j).block < V1.heap.size := by
                            have : (ad.add j).block = ad.block := by unfold Addr.add; split <;> rfl
                            rw [this]; exact hk.2.1
                          exact (hbV.cell hlt).trans hc) (by omega) hb.size hO58
                        refine wp_append (.tmp 58) (.tmp 62) _ rfl ((Act.eval_tmp _ _).trans h58) ((Act.eval_tmp _ _).trans h62) hrun ?_
                        have hbb : Below wx.heap.size wx w' := (Below.refl _ _).grown hgr (Nat.le_refl _) (fun k e => by cases e)
                        exact ⟨v', rfl, hbb.mono hb.size, fun _ _ => hown, fun j u _ _ _ h => FP_grow j u _ _ h hbb⟩
                      · intro a wx hb hd hs ho hp
                        refine ⟨rfl, ?_⟩
                        have h6 : a.tmps.getD 6 undef = .slice (some ⟨gL, 0, none⟩) l.length lc := (ho 6 (by kernel_rfl)).trans rfl
                        unfold Oper.wp
                        go_simp
                        exact SteppedK.at rfl hd hb.size (Below.refl _ _) rfl FP_grow
                      · intro a wx hb hd hs ho hp
                        refine ⟨rfl, ?_⟩
                        have h10 : a.tmps.getD 10 undef = .int .i64 q := (ho 10 (by kernel_rfl)).trans rfl
                        unfold Oper.wp
                        go_simp
                        exact SteppedK.at rfl hd hb.size (Below.refl _ _) rfl FP_grow
                      · intro a wx hb hd hs ho hp
                        refine ⟨rfl, ?_⟩
                        have h64 : a.tmps.getD 64 undef = .slice (some ⟨gL, 0, none⟩) l.length lc := facts_at hp 7 64 (by kernel_rfl)
                        have h65 : a.tmps.getD 65 undef = .int .i64 q := facts_at hp 8 65 (by kernel_rfl)
                        unfold Oper.wp
                        go_simp
                        exact SteppedK.at (v := .pointer (some ⟨gL, q * 4, none⟩)) (by first | rfl | simp) hd hb.size (Below.refl _ _) rfl FP_grow
                      · intro a wx hb hd hs ho hp
                        refine ⟨rfl, ?_⟩
                        have h66 : a.tmps.getD 66 undef = .pointer (some ⟨gL, q * 4, none⟩) := facts_at hp 9 66 (by kernel_rfl)
                        have hbV := HB9.out.trans (hb.mono zV)
                        have x0 := (hbV.cell (p := ⟨gL, q * 4, none⟩) hgL).trans HY.out.1
                        have x1 := (hbV.cell (p := ⟨gL, q * 4 + 1, none⟩) hgL).trans HY.out.2.1
                        have x2 := (hbV.cell (p := ⟨gL, q * 4 + 2, none⟩) hgL).trans HY.out.2.2.1
                        have x3 := (hbV.cell (p := ⟨gL, q * 4 + 3, none⟩) hgL).trans HY.out.2.2.2
                        unfold Oper.wp
                        go_simp
                        exact SteppedK.at (v := .agg #[.int .u8 k2, .int .i64 n2, .string s2, .slice a2 us2.length c2]) rfl hd hb.size (Below.refl _ _) rfl FP_grow
                      · intro a wx hb hd hs ho hp
                        refine ⟨rfl, ?_⟩
                        have h67 : a.tmps.getD 67 undef = .agg #[.int .u8 k2, .int .i64 n2, .string s2, .slice a2 us2.length c2] := facts_at hp 10 67 (by kernel_rfl)
                        have s67 := qslot_of (hs.trans (show _ = 146 from rfl)) (by decide) h67
                        unfold Oper.wp
                        go_simp
                        exact SteppedK.at rfl hd hb.size ((Below.refl _ _).alloc (Nat.le_refl _) _) ⟨_, rfl, World.alloc_heap_new _ _⟩ FP_grow
                      · intro a wx hb hd hs ho hp
                        refine ⟨rfl, ?_⟩
                        have h63 : wx.ownsRow wr.heap.size 32 4 (a.tmps.getD 63 undef) m8 xs := facts_at hp 6 63 (by kernel_rfl)
                        obtain ⟨g68, h68, hg68⟩ : FP wr.heap.size u8 (.slice (some ⟨gR, 0, none⟩) R.length rc) gR r (.slice ua m8 uc) (.slice (some ⟨gL, 0, none⟩) l.length lc) gL q (.agg #[.int .u8 k2, .int .i64 n2, .string s2, .slice a2 us2.length c2]) #[.int .u8 k2, .int .i64 n2, .string s2, .slice a2 us2.length c2] xs m8 11 (a.tmps.getD 68 undef) wx := facts_at hp 11 68 (by kernel_rfl)
                        obtain ⟨i0, hi, hz0, hz1, hz2⟩ := info_parts info_term
                        obtain ⟨v', w', hrun, hown, hgr, _, _⟩ := run_append_own_at (P := Tryz.prog) wx wr.heap.size 30 _ 32 i0 _ 4 56 Tryz.underlying30 hi hz0 hz1 hz2 rfl (by decide) _ m8 xs h63 ⟨g68, 0, none⟩ 1 1 [.int .u8 k2, .int .i64 n2, .string s2, .slice a2 us2.length c2] rfl (fun j u hj => by
                          rcases j with _ | _ | _ | _ | j
                          · cases hj; exact cells_at hg68 0 _ rfl
                          · cases hj; exact cells_at hg68 1 _ rfl
                          · cases hj; exact cells_at hg68 2 _ rfl
                          · cases hj; exact cells_at hg68 3 _ rfl
                          · simp at hj) (by simp [Value.oneCell']) (by unfold maxLen; omega) (by omega) hb.size
                        refine wp_append (.tmp 63) (.tmp 68) _ rfl (Act.eval_tmp _ _) ((Act.eval_tmp _ _).trans h68) hrun ?_
                        refine ⟨v', rfl, (Below.refl _ wx |>.mono hb.size).grown hgr hb.size (fun k e => (h63.lt k e).1), fun _ _ => hown, fun j u hne hk hw h => ?_⟩
                        match j, h with
                        | 0, h => exact h
                        | 1, _ => exact absurd hk (by decide)
                        | 2, h => exact h
                        | 3, h => exact h
                        | 4, h => exact h
                        | 5, h => exact h
                        | 6, _ => exact absurd hk (by decide)
                        | 7, h => exact h
                        | 8, h => exact h
                        | 9, h => exact h
                        | 10, h => exact h
                        | 11, _ => exact absurd hk (by decide)
                        | 12, _ => exact absurd rfl hne
                        | 13, _ => exact absurd hw (by rw [show waitsT _ _ 13 12 = true by kernel_rfl]; decide)
                        | j + 14, _ => trivial
                      · intro a wx hb hd hs ho hp
                        refine ⟨rfl, ?_⟩
                        have h69 : wx.ownsRow wr.heap.size 32 4 (a.tmps.getD 69 undef) (m8 + 1) (xs ++ [.int .u8 k2, .int .i64 n2, .string s2, .slice a2 us2.length c2]) := facts_at hp 12 69 (by kernel_rfl)
                        obtain ⟨sa, sn, sc, hsv⟩ := own_slice h69
                        rw [hsv] at h69
                        have s69 := qslot_of (hs.trans (show _ = 146 from rfl)) (by decide) hsv
                        unfold Oper.wp
                        go_simp
                        exact SteppedK.at rfl hd hb.size ((Below.refl _ _).alloc (Nat.le_refl _) _) ⟨_, _, rfl, hb.size, World.alloc_heap_new _ _, own_grown h69 ((Below.refl _ _).alloc (Nat.le_refl _) _)⟩ FP_grow
                    · intro a wx hb hd hs ho hf
                      have k57 : a.tmps.getD 57 undef = u8 := facts_toK hf 0 57 (by decide) (fun k _ => by unfold klP; simp) (by kernel_rfl)
                      obtain ⟨g70, u70, k70, hg1, hg2, hg3⟩ : FP wr.heap.size u8 (.slice (some ⟨gR, 0, none⟩) R.length rc) gR r (.slice ua m8 uc) (.slice (some ⟨gL, 0, none⟩) l.length lc) gL q (.agg #[.int .u8 k2, .int .i64 n2, .string s2, .slice a2 us2.length c2]) #[.int .u8 k2, .int .i64 n2, .string s2, .slice a2 us2.length c2] xs m8 13 (a.tmps.getD 70 undef) wx := facts_toK hf 13 70 (by decide) (fun k _ => by unfold klP; simp) (by kernel_rfl)
                      obtain ⟨u58, f58⟩ : ∃ u, a.tmps.getD 58 undef = u := ⟨_, rfl⟩
                      obtain ⟨u59, f59⟩ : ∃ u, a.tmps.getD 59 undef = u := ⟨_, rfl⟩
                      obtain ⟨u60, f60⟩ : ∃ u, a.tmps.getD 60 undef = u := ⟨_, rfl⟩
                      obtain ⟨u61, f61⟩ : ∃ u, a.tmps.getD 61 undef = u := ⟨_, rfl⟩
                      obtain ⟨u62, f62⟩ : ∃ u, a.tmps.getD 62 undef = u := ⟨_, rfl⟩
                      obtain ⟨u63, f63⟩ : ∃ u, a.tmps.getD 63 undef = u := ⟨_, rfl⟩
                      obtain ⟨u64, f64⟩ : ∃ u, a.tmps.getD 64 undef = u := ⟨_, rfl⟩
                      obtain ⟨u65, f65⟩ : ∃ u, a.tmps.getD 65 undef = u := ⟨_, rfl⟩
                      obtain ⟨u66, f66⟩ : ∃ u, a.tmps.getD 66 undef = u := ⟨_, rfl⟩
                      obtain ⟨u67, f67⟩ : ∃ u, a.tmps.getD 67 undef = u := ⟨_, rfl⟩
                      obtain ⟨u68, f68⟩ : ∃ u, a.tmps.getD 68 undef = u := ⟨_, rfl⟩
                      obtain ⟨u69, f69⟩ : ∃ u, a.tmps.getD 69 undef = u := ⟨_, rfl⟩
                      have hE := slots_mergeP [false, false, false, false, false, false, false, false, false, false, false, false, false, false, false, false, false, false, false, false, false, false, false, false, false, false, false, false, false, false, false, false, false, false, false, false, false, false, false, false, false, false, false, false, false, false, false, false, false, false, false, false, false, false, false, false, false, true, true, true, true, true, true, true, true, true, true, true, true, true, true, false, false, false, false, false, false, false, false, false, false, false, false, false, false, false, false, false, false, false, false, false, false, false, false, false, false, false, false, false, false, false, false, false, false, false, false, false, false, false, false, false, false, false, false, false, false, false, false, false, false, false, false, false, false, false, false, false, false, false, false, false, false, false, false, false, false, false, false, false, false, false, false, false, false, false] 146 hs rfl (by kernel_rfl) ho
                      simp only [mergeFrom, Nat.zero_add, Nat.reduceAdd, k57, k70, f58, f59, f60, f61, f62, f63, f64, f65, f66, f67, f68, f69] at hE
                      obtain ⟨T, D⟩ := a
                      simp only at hE hd
                      subst hd hE
                      clear k57 k70 f58 f59 f60 f61 f62 f63 f64 f65 f66 f67 f68 f69 hf hs ho
                      have hbV := HB9.out.trans (hb.mono zV)
                      have HBV2 := Lib.hid hbV
                      have HBX := Lib.hid hb
                      have HG1 := Lib.hid hg1
                      have HG2 := Lib.hid hg2
                      have HG3 := Lib.hid hg3
                      obtain ⟨sa, sn, sc, rfl⟩ := own_slice hg3
                      clear hb hg1 hg2 hg3 hbV
                      obtain ⟨i0, hi, hz0, hz1, hz2⟩ := info_parts info_terms
                      obtain ⟨DN, hDN⟩ : ∃ DN, (((R.take r).flatMap fun r => l.map fun x => r ++ [x]) ++ (l.take q).map fun x => R[r] ++ [x]) = DN := ⟨_, rfl⟩
                      have hDl : DN.length ≤ 100000 := by
                        have h1 : DN.length = r * l.length + q := by
                          rw [← hDN, List.length_append, List.length_map, List.length_take, flat_len, List.length_take, Nat.min_eq_left (by omega), Nat.min_eq_left (by omega)]
                        have h2 : r * l.length ≤ 300 * 300 := Nat.mul_le_mul (by have := HQR.out; omega) HQL.out
                        have := HQL.out
                        omega
                      have hNX : (((R.take r).flatMap fun r => l.map fun x => r ++ [x]) ++ (l.take (q + 1)).map fun x => R[r] ++ [x]) = DN ++ [R[r] ++ [l[q]]] := by
                        rw [← hDN, List.take_succ_eq_append_getElem hql, List.map_append, ← List.append_assoc]; rfl
                      rw [hDN] at HO8 HR8
                      have HNX2 := Lib.hid hNX
                      clear hNX hDN
                      have zX := HBX.out.size
                      simp only [List.drop_succ_cons, List.drop_zero]
                      refine (wpList_append_own_at _ rfl _ _ 73 rfl w.heap.size 30 i0 _ 1 24 Tryz.underlying73 hi hz0 hz1 hz2 rfl (by decide) u8 DN.length vs8 rfl (own_grown HO8.out HBX.out) ⟨g70, 0, none⟩ 1 1 [.slice sa sn sc] rfl rfl ?c1 ?c2 ?c3 ?c4 ?c5 ?_)
                      case c1 =>
                        intro jj u' hu'
                        rcases jj with _ | jj
                        · cases hu'; exact cells_at HG2.out 0 _ rfl
                        · simp at hu'
                      case c2 => simp [Value.oneCell']
                      case c3 => unfold maxLen; omega
                      case c4 => omega
                      case c5 => have := HBV.out.size; omega
                      intro v' w' hown' hgrow _ hat
                      have hT' : ListsT w.heap.size w' v' (DN ++ [R[r] ++ [l[q]]]) := by
                        have zW := HBV.out.size
                        refine ListsT.app (own_grown HO8.out HBX.out) (fun i hi2 => ?_) ?_ hown' hgrow hat
                        · obtain ⟨u, hu, hRI⟩ := HR8.out i hi2
                          exact ⟨u, hu, hRI.keep fun b hf => ⟨⟨hf.1, Nat.lt_of_lt_of_le hf.2.1 zX, hf.2.2⟩, HBX.out.block b hf.2.1⟩⟩
                        · have hkp : ∀ b, (w.heap.size ≤ b ∧ b < V1.heap.size) → (w.heap.size ≤ b ∧ b < wx.heap.size ∧ u8.ownBlock ≠ some b) ∧ wx.heap[b]? = V1.heap[b]? := fun b hf =>
                            ⟨⟨hf.1, by omega, fun e => by have := HG9.out b e; omega⟩, HBV2.out.block b hf.2⟩
                          have hH : HoldL (fun b => w.heap.size ≤ b ∧ b < wx.heap.size ∧ u8.ownBlock ≠ some b) wx (xs ++ [.int .u8 k2, .int .i64 n2, .string s2, .slice a2 us2.length c2]) (RR ++ [.mk k2 n2 s2 us2]) :=
                            (HXH.out.keep fun b hf => hkp b ⟨hf.1, hf.2.1⟩).append (HoldL.one (HI.out.keep fun b hf => hkp b hf))
                          rw [HTQ.out, HRR.out]
                          have hsl : (RR ++ [Tm.mk k2 n2 s2 us2]).length = m8 + 1 := by simp [hm8]
                          rcases HG3.out.2 with ⟨_, h0⟩ | ⟨g, cap, cur, h1, h2, h3, h4, _⟩
                          · omega
                          · simp only [Value.slice.injEq] at h1
                            obtain ⟨rfl, rfl, rfl⟩ := h1
                            refine ⟨_, _, by rw [hsl], by rw [hsl]; unfold maxLen; omega, fun _ => ⟨g, 0, rfl, ⟨by omega, (Array.getElem?_eq_some_iff.1 h3).1, fun e => ?_⟩, HoldL.tms hH (off := 0) fun j u hj => ?_⟩⟩
                            · have h5 := (HO8.out.lt g e).2; omega
                            · have := HG3.out.cells (g := g) rfl j u hj
                              rwa [Addr.add_lit] at this
                      have hBx : Below V1.heap.size V1 w' := HBV2.out.grown hgrow (by omega) (fun k e => HG9.out k e)
                      have hGx : ∀ g, v'.ownBlock = some g → V1.heap.size ≤ g := fun g e => by
                        rcases hat with h | h
                        · exact HG9.out g (h ▸ e)
                        · rw [h] at e; cases e; omega
                      have HT' := Lib.hid hT'
                      have HBx := Lib.hid hBx
                      have HGx := Lib.hid hGx
                      clear hT' hBx hGx hown' hgrow hat
                      go_wp2
                      go_roundw
                      case rel => exact ⟨q + 1, by omega, by go_num, by rw [HNX2.out]; exact HT'.out, HGx.out, HBx.out⟩
                      case measure => simp [intOf]; omega
                  · have m2 : ¬ (q : Int) < (l.length : Int) := by omega
                    have HF := Lib.hid (show ListsT w.heap.size wr _ ((R.take (r + 1)).flatMap fun r => l.map fun x => r ++ [x]) by
                      have h := HL9.out
                      rw [show l.take q = l from List.take_of_length_le (by omega)] at h
                      rw [List.take_succ_eq_append_getElem hrl, List.flatMap_append]
                      simpa using h)
                    go_wp2
                    go_roundw
                    case rel => exact ⟨r + 1, by omega, by go_num, HF.out, HG9.out, HB9.out⟩
                    case measure => simp [intOf]; omega
              · have j2 : ¬ (r : Int) < (R.length : Int) := by omega
                have HF := Lib.hid (show ListsT w.heap.size wr _ (R.flatMap fun r => l.map fun x => r ++ [x]) by
                  have h := HL8.out
                  rwa [show R.take r = R from List.take_of_length_le (by omega)] at h)
                have HQ := Lib.hid (Q2.out.grow HB8.out)
                have HBF := Lib.hid (HBV.out.trans (HB8.out.mono HBV.out.size))
                go_wp2
                go_roundw
                case rel => exact ⟨j + 1, _, by omega, by go_num, HNX.out, HF.out, HBF.out, HQ.out⟩
                case measure => simp [intOf]; omega
      · have i2 : ¬ (j : Int) < (us.length : Int) := by omega
        have hje : j = us.length := by omega
        have hRu : plainR us [[]] = some R := by have := HR.out; rwa [hje, List.take_of_length_le (Nat.le_refl _)] at this
        have hRlen := plainR_len hRu (m := 0) (by simp) (by simp)
        have HR300 := Lib.hid hRlen.1
        have HRL := Lib.hid (show ∀ c ∈ R, c.length = us.length from fun c hc => by rw [hRlen.2 c hc]; omega)
        have HRD := Lib.hid (plainR_depth hRu)
        have HRU := Lib.hid hRu
        obtain ⟨ra, rc, rfl⟩ := HLT.out.shape
        obtain ⟨WR, hWR⟩ : ∃ x, x = wr := ⟨_, rfl⟩
        subst hWR
        clear hje hRu HR hRlen hj
        go_wp2_with fail
        go_loopw [11, 12] (fun v11 i wl => ∃ (r : Nat) (out : List Tm), r ≤ R.length ∧ i = .int .i64 r ∧ outR k n s (R.take r) = some out ∧ out.length ≤ 1000 ∧ Vals none w.heap.size wl v11 out ∧ (∀ g, v11.ownBlock = some g → WR.heap.size ≤ g) ∧ Below WR.heap.size WR wl) (fun _ i _ => R.length - (intOf i).toNat)
        case atStart => exact ⟨0, [], by omega, by go_num, by unfold outR; split <;> rfl, by simp, Vals.nil _ _ _, fun g e => (by cases e), Below.refl _ _⟩
        case round =>
          obtain ⟨r, out, hr, rfl, hO, hol, hV, hg, hB⟩ := hrel
          have HO := Lib.hid hO
          have HV := Lib.hid hV
          have HG := Lib.hid hg
          have HB := Lib.hid hB
          clear hO hV hg hB
          have i1 : (0 : Int) ≤ (r : Int) := by omega
          by_cases hrl : r < R.length
          · have i2 : (r : Int) < (R.length : Int) := by omega
            obtain ⟨vsR, hOR, hRR0⟩ := HLT.out
            obtain ⟨U, hU, hUI⟩ := hRR0 r hrl
            obtain ⟨ua, un, uc, rfl⟩ : ∃ ua un uc, U = .slice ua un uc := by obtain ⟨_, _, e, _⟩ := hUI; exact ⟨_, _, _, e⟩
            obtain rfl : un = R[r].length := (row_cells hUI).1
            have HUI := Lib.hid hUI
            obtain ⟨gR, rfl⟩ : ∃ gR, ra = some ⟨gR, 0, none⟩ := by
              rcases hOR.2 with ⟨_, h0⟩ | ⟨g, cap, cur, h1, _⟩
              · omega
              · simp only [Value.slice.injEq] at h1
                exact ⟨g, h1.1⟩
            have hgR := (hOR.lt gR rfl).2
            have hUc : WR.cell? ⟨gR, r, none⟩ = some (.slice ua R[r].length uc) := by
              have := hOR.cells (g := gR) rfl r _ hU
              rwa [Addr.add_lit, Nat.zero_add] at this
            have yU := (HB.out.cell (p := ⟨gR, r, none⟩) hgR).trans hUc
            have hlen := HRL.out R[r] (List.getElem_mem hrl)
            have HLN := Lib.hid hlen
            have Q3 := Lib.hid (Q1.out.grow (HB.out.mono (Nat.le_refl _)))
            have x0 := cells_at Q3.out 0 _ rfl
            have x1 := cells_at Q3.out 1 _ rfl
            have x2 := cells_at Q3.out 2 _ rfl
            have x3 := cells_at Q3.out 3 _ rfl
            have zW := HBr.out.size
            have zB := HB.out.size
            have yU2 := (((Below.refl _ wr).alloc (Nat.le_refl _) (.cells #[.int .u8 k, .int .i64 n, .string s, .slice a us.length cap] 32)).cell (p := ⟨gR, r, none⟩) (by show gR < _; omega)).trans yU
            clear hUI hU hRR0 hOR hUc hlen
            by_cases h6 : k = 6
            · subst h6
              have hl2 : R[r].length = 2 := HLN.out.trans (HW6.out rfl)
              obtain ⟨x, y, hxy⟩ := two_of hl2
              have HXY := Lib.hid hxy
              rw [hl2] at yU yU2
              obtain ⟨ua', uc', e, _, hrow⟩ := HUI.out
              simp only [Value.slice.injEq, true_and] at e
              obtain ⟨rfl, rfl⟩ := e
              obtain ⟨bU, oU, rfl, hbU, hI⟩ := hrow (by rw [hxy]; simp)
              rw [hxy] at hI
              simp only [IsTmsIn] at hI
              obtain ⟨c0, c1, c2, c3, y0, y1, y2, y3, hI1, e0, e1, e2, e3, z0, z1, z2, z3, hI2, _⟩ := hI
              have hbW := HB.out
              have tr : ∀ {o : Nat} {u : Value}, WR.cell? ⟨bU, o, none⟩ = some u → ∀ W', Below wr.heap.size wr W' → W'.cell? ⟨bU, o, none⟩ = some u := fun {o u} h W' hb => ((hbW.trans (hb.mono zB)).cell (p := ⟨bU, o, none⟩) hbU.2.1).trans h
              have HZ0 := Lib.hid (And.intro (tr y0) (And.intro (tr y1) (And.intro (tr y2) (tr y3))))
              have HZ := Lib.hid (And.intro (tr z0) (And.intro (tr z1) (And.intro (tr z2) (tr z3))))
              have HX0 := Lib.hid (show ∀ W', Below wr.heap.size wr W' → W'.cell? ⟨w.heap.size, 0, none⟩ = some (.int .u8 6) from fun W' hb => (hb.cell (p := ⟨w.heap.size, 0, none⟩) (Array.getElem?_eq_some_iff.1 Q3.out).1).trans (cells_at Q3.out 0 _ rfl))
              have hdx : ∀ t ∈ R[r], t.depth ≤ 60 := fun t ht => by
                have h1 := HRD.out R[r] (List.getElem_mem hrl) t ht
                have h2 := Tm.depth_le_count (Tm.mk 6 n s us)
                have h3 := HCN.out
                simp only [Tm.depth, Tm.count] at h2
                omega
              have HE1 := Lib.hid (show ∀ W', Below wr.heap.size wr W' → Calls Tryz.prog 20 #[.agg #[c0, c1, c2, c3]] W' (EvPost x W') from fun W' hb => eval_any x _ _ _ _ W' (((hI1.isTm (B := WR.heap.size) fun b hf => hf.2.1).below (hbW.trans (hb.mono zB))).mono (Nat.le_trans zB hb.size)) (by have := hdx x (by rw [hxy]; simp); omega))
              have HE2 := Lib.hid (show ∀ W', Below wr.heap.size wr W' → Calls Tryz.prog 20 #[.agg #[e0, e1, e2, e3]] W' (EvPost y W') from fun W' hb => eval_any y _ _ _ _ W' (((hI2.isTm (B := WR.heap.size) fun b hf => hf.2.1).below (hbW.trans (hb.mono zB))).mono (Nat.le_trans zB hb.size)) (by have := hdx y (by rw [hxy]; simp); omega))
              obtain ⟨va, vc, rfl⟩ := HV.out.shape
              have hr300 := HR300.out
              clear y0 y1 y2 y3 z0 z1 z2 z3 hI1 hI2 hbW tr hdx hxy hl2 hrow
              cases hEx : evalT x with
              | none =>
                have HEX := Lib.hid hEx
                clear hEx
                cases hEy : evalT y with
                | none =>
                  have HEY := Lib.hid hEy
                  clear hEy
                  have C1 := Lib.hid ((Below.refl _ wr).alloc (Nat.le_refl _) (.cells #[.int .u8 6, .int .i64 n, .string s, .slice (some ⟨bU, oU, none⟩) 2 uc] 32))
                  have f0 := HZ0.out.1 _ C1.out
                  have f1 := HZ0.out.2.1 _ C1.out
                  have f2 := HZ0.out.2.2.1 _ C1.out
                  have f3 := HZ0.out.2.2.2 _ C1.out
                  have k0 := HX0.out _ C1.out
                  have HRS := Lib.hid (show rowSpan [x, y] = none by simp [rowSpan, HEX.out, HEY.out])
                  go_wp2_with (first | (go_at_call 20; refine (HE2.out _ C4.out).mono ?_; rintro e w3 ⟨d0, d1, d2, d3, b1, rfl, hb2, hres⟩; obtain ⟨rfl, rfl, rfl, rfl, rfl⟩ := evRes_none hres HEY.out; have B6 := hb2.alloc hb2.size (.cells #[.int .u8 0, .int .i64 0, .string ⟨#[]⟩, .slice none 0 0] 32); have C6 := Lib.hid (C4.out.trans (B6.mono C4.out.size)); have r0 := (B6.cell (p := ⟨w2.heap.size, 0, none⟩) (by simp)).trans (cells_at (World.alloc_heap_new w2 (.cells #[.int .u8 0, .int .i64 0, .string ⟨#[]⟩, .slice none 0 0] 32)) 0 _ rfl); have r1 := (B6.cell (p := ⟨w2.heap.size, 1, none⟩) (by simp)).trans (cells_at (World.alloc_heap_new w2 (.cells #[.int .u8 0, .int .i64 0, .string ⟨#[]⟩, .slice none 0 0] 32)) 1 _ rfl); have S3 := Lib.hid hb2; clear hb2 hres B6) | (go_at_call 20; refine (HE1.out _ C1.out).mono ?_; rintro e w2 ⟨d0, d1, d2, d3, b1, rfl, hb2, hres⟩; obtain ⟨rfl, rfl, rfl, rfl, rfl⟩ := evRes_none hres HEX.out; have B4 := hb2.alloc hb2.size (.cells #[.int .u8 0, .int .i64 0, .string ⟨#[]⟩, .slice none 0 0] 32); have C4 := Lib.hid (C1.out.trans (B4.mono C1.out.size)); have q3 := (B4.cell (p := ⟨wr.heap.size, 3, none⟩) (by simp)).trans (cells_at (World.alloc_heap_new wr (.cells #[.int .u8 6, .int .i64 n, .string s, .slice (some ⟨bU, oU, none⟩) 2 uc] 32)) 3 _ rfl); have z0 := HZ.out.1 _ C4.out; have z1 := HZ.out.2.1 _ C4.out; have z2 := HZ.out.2.2.1 _ C4.out; have z3 := HZ.out.2.2.2 _ C4.out; have S2 := Lib.hid hb2; clear hb2 hres B4))
                  go_roundw
                  case rel => exact ⟨r + 1, out, by omega, by go_num, by rw [outR_take hrl HO.out, if_pos rfl, HXY.out]; simp only [spanRows, HRS.out], hol, HV.out.grow C6.out, HG.out, HB.out.trans (C6.out.mono zB)⟩
                  case measure => simp [intOf]; omega
                | some vy =>
                  obtain ⟨ky, ny, sy, uy⟩ := vy
                  have HEY := Lib.hid hEy
                  clear hEy
                  have C1 := Lib.hid ((Below.refl _ wr).alloc (Nat.le_refl _) (.cells #[.int .u8 6, .int .i64 n, .string s, .slice (some ⟨bU, oU, none⟩) 2 uc] 32))
                  have f0 := HZ0.out.1 _ C1.out
                  have f1 := HZ0.out.2.1 _ C1.out
                  have f2 := HZ0.out.2.2.1 _ C1.out
                  have f3 := HZ0.out.2.2.2 _ C1.out
                  have k0 := HX0.out _ C1.out
                  have HRS := Lib.hid (show rowSpan [x, y] = none by simp [rowSpan, HEX.out, HEY.out])
                  go_wp2_with (first | (go_at_call 20; refine (HE2.out _ C4.out).mono ?_; rintro e w3 ⟨d0, d1, d2, d3, b1, rfl, hb2, hres⟩; obtain ⟨rfl, ay, ly, cy, rfl, rfl, rfl, rfl⟩ := evRes_some hres HEY.out; have B6 := hb2.alloc hb2.size (.cells #[.int .u8 ky, .int .i64 ny, .string sy, .slice ay ly cy] 32); have C6 := Lib.hid (C4.out.trans (B6.mono C4.out.size)); have r0 := (B6.cell (p := ⟨w2.heap.size, 0, none⟩) (by simp)).trans (cells_at (World.alloc_heap_new w2 (.cells #[.int .u8 0, .int .i64 0, .string ⟨#[]⟩, .slice none 0 0] 32)) 0 _ rfl); have r1 := (B6.cell (p := ⟨w2.heap.size, 1, none⟩) (by simp)).trans (cells_at (World.alloc_heap_new w2 (.cells #[.int .u8 0, .int .i64 0, .string ⟨#[]⟩, .slice none 0 0] 32)) 1 _ rfl); have S3 := Lib.hid hb2; clear hb2 hres B6) | (go_at_call 20; refine (HE1.out _ C1.out).mono ?_; rintro e w2 ⟨d0, d1, d2, d3, b1, rfl, hb2, hres⟩; obtain ⟨rfl, rfl, rfl, rfl, rfl⟩ := evRes_none hres HEX.out; have B4 := hb2.alloc hb2.size (.cells #[.int .u8 0, .int .i64 0, .string ⟨#[]⟩, .slice none 0 0] 32); have C4 := Lib.hid (C1.out.trans (B4.mono C1.out.size)); have q3 := (B4.cell (p := ⟨wr.heap.size, 3, none⟩) (by simp)).trans (cells_at (World.alloc_heap_new wr (.cells #[.int .u8 6, .int .i64 n, .string s, .slice (some ⟨bU, oU, none⟩) 2 uc] 32)) 3 _ rfl); have z0 := HZ.out.1 _ C4.out; have z1 := HZ.out.2.1 _ C4.out; have z2 := HZ.out.2.2.1 _ C4.out; have z3 := HZ.out.2.2.2 _ C4.out; have S2 := Lib.hid hb2; clear hb2 hres B4))
                  go_roundw
                  case rel => exact ⟨r + 1, out, by omega, by go_num, by rw [outR_take hrl HO.out, if_pos rfl, HXY.out]; simp only [spanRows, HRS.out], hol, HV.out.grow C6.out, HG.out, HB.out.trans (C6.out.mono zB)⟩
                  case measure => simp [intOf]; omega
              | some vx =>
                obtain ⟨kx, nx, sx, ux⟩ := vx
                have HEX := Lib.hid hEx
                clear hEx
                cases hEy : evalT y with
                | none =>
                  have HEY := Lib.hid hEy
                  clear hEy
                  have C1 := Lib.hid ((Below.refl _ wr).alloc (Nat.le_refl _) (.cells #[.int .u8 6, .int .i64 n, .string s, .slice (some ⟨bU, oU, none⟩) 2 uc] 32))
                  have f0 := HZ0.out.1 _ C1.out
                  have f1 := HZ0.out.2.1 _ C1.out
                  have f2 := HZ0.out.2.2.1 _ C1.out
                  have f3 := HZ0.out.2.2.2 _ C1.out
                  have k0 := HX0.out _ C1.out
                  have HRS := Lib.hid (show rowSpan [x, y] = none by simp [rowSpan, HEX.out, HEY.out])
                  go_wp2_with (first | (go_at_call 20; refine (HE2.out _ C4.out).mono ?_; rintro e w3 ⟨d0, d1, d2, d3, b1, rfl, hb2, hres⟩; obtain ⟨rfl, rfl, rfl, rfl, rfl⟩ := evRes_none hres HEY.out; have B6 := hb2.alloc hb2.size (.cells #[.int .u8 0, .int .i64 0, .string ⟨#[]⟩, .slice none 0 0] 32); have C6 := Lib.hid (C4.out.trans (B6.mono C4.out.size)); have r0 := (B6.cell (p := ⟨w2.heap.size, 0, none⟩) (by simp)).trans (cells_at (World.alloc_heap_new w2 (.cells #[.int .u8 kx, .int .i64 nx, .string sx, .slice ax lx cx] 32)) 0 _ rfl); have r1 := (B6.cell (p := ⟨w2.heap.size, 1, none⟩) (by simp)).trans (cells_at (World.alloc_heap_new w2 (.cells #[.int .u8 kx, .int .i64 nx, .string sx, .slice ax lx cx] 32)) 1 _ rfl); have S3 := Lib.hid hb2; clear hb2 hres B6) | (go_at_call 20; refine (HE1.out _ C1.out).mono ?_; rintro e w2 ⟨d0, d1, d2, d3, b1, rfl, hb2, hres⟩; obtain ⟨rfl, ax, lx, cx, rfl, rfl, rfl, rfl⟩ := evRes_some hres HEX.out; have B4 := hb2.alloc hb2.size (.cells #[.int .u8 kx, .int .i64 nx, .string sx, .slice ax lx cx] 32); have C4 := Lib.hid (C1.out.trans (B4.mono C1.out.size)); have q3 := (B4.cell (p := ⟨wr.heap.size, 3, none⟩) (by simp)).trans (cells_at (World.alloc_heap_new wr (.cells #[.int .u8 6, .int .i64 n, .string s, .slice (some ⟨bU, oU, none⟩) 2 uc] 32)) 3 _ rfl); have z0 := HZ.out.1 _ C4.out; have z1 := HZ.out.2.1 _ C4.out; have z2 := HZ.out.2.2.1 _ C4.out; have z3 := HZ.out.2.2.2 _ C4.out; have S2 := Lib.hid hb2; clear hb2 hres B4))
                  go_roundw
                  case rel => exact ⟨r + 1, out, by omega, by go_num, by rw [outR_take hrl HO.out, if_pos rfl, HXY.out]; simp only [spanRows, HRS.out], hol, HV.out.grow C6.out, HG.out, HB.out.trans (C6.out.mono zB)⟩
                  case measure => simp [intOf]; omega
                | some vy =>
                  obtain ⟨ky, ny, sy, uy⟩ := vy
                  have HEY := Lib.hid hEy
                  clear hEy
                  have C1 := Lib.hid ((Below.refl _ wr).alloc (Nat.le_refl _) (.cells #[.int .u8 6, .int .i64 n, .string s, .slice (some ⟨bU, oU, none⟩) 2 uc] 32))
                  have f0 := HZ0.out.1 _ C1.out
                  have f1 := HZ0.out.2.1 _ C1.out
                  have f2 := HZ0.out.2.2.1 _ C1.out
                  have f3 := HZ0.out.2.2.2 _ C1.out
                  have k0 := HX0.out _ C1.out
                  by_cases hk1 : kx = 1
                  · by_cases hk2 : ky = 1
                    · subst hk1
                      subst hk2
                      have hrx := eval_num HEX.out rfl
                      have hry := eval_num HEY.out rfl
                      simp only [Tm.num] at hrx hry
                      have HRS := Lib.hid (show rowSpan [x, y] = some (nx, ny) by simp [rowSpan, HEX.out, HEY.out, Tm.kind, Tm.num])
                      have hwr : IntKind.i64.wrap (ny - nx) = ny - nx := IntWalk.i64_in _ (by omega)
                      by_cases hfar : 300 < ny - nx
                      · go_wp2_with (first | (go_at_call 20; refine (HE2.out _ C4.out).mono ?_; rintro e w3 ⟨d0, d1, d2, d3, b1, rfl, hb2, hres⟩; obtain ⟨rfl, ay, ly, cy, rfl, rfl, rfl, rfl⟩ := evRes_some hres HEY.out; have B6 := hb2.alloc hb2.size (.cells #[.int .u8 1, .int .i64 ny, .string sy, .slice ay ly cy] 32); have C6 := Lib.hid (C4.out.trans (B6.mono C4.out.size)); have r0 := (B6.cell (p := ⟨w2.heap.size, 0, none⟩) (by simp)).trans (cells_at (World.alloc_heap_new w2 (.cells #[.int .u8 1, .int .i64 nx, .string sx, .slice ax lx cx] 32)) 0 _ rfl); have r1 := (B6.cell (p := ⟨w2.heap.size, 1, none⟩) (by simp)).trans (cells_at (World.alloc_heap_new w2 (.cells #[.int .u8 1, .int .i64 nx, .string sx, .slice ax lx cx] 32)) 1 _ rfl); have S3 := Lib.hid hb2; clear hb2 hres B6) | (go_at_call 20; refine (HE1.out _ C1.out).mono ?_; rintro e w2 ⟨d0, d1, d2, d3, b1, rfl, hb2, hres⟩; obtain ⟨rfl, ax, lx, cx, rfl, rfl, rfl, rfl⟩ := evRes_some hres HEX.out; have B4 := hb2.alloc hb2.size (.cells #[.int .u8 1, .int .i64 nx, .string sx, .slice ax lx cx] 32); have C4 := Lib.hid (C1.out.trans (B4.mono C1.out.size)); have q3 := (B4.cell (p := ⟨wr.heap.size, 3, none⟩) (by simp)).trans (cells_at (World.alloc_heap_new wr (.cells #[.int .u8 6, .int .i64 n, .string s, .slice (some ⟨bU, oU, none⟩) 2 uc] 32)) 3 _ rfl); have z0 := HZ.out.1 _ C4.out; have z1 := HZ.out.2.1 _ C4.out; have z2 := HZ.out.2.2.1 _ C4.out; have z3 := HZ.out.2.2.2 _ C4.out; have S2 := Lib.hid hb2; clear hb2 hres B4))
                        go_ret2
                        exact ⟨_, false, rfl, HBr.out.trans ((HB.out.trans (C6.out.mono zB)).mono HBr.out.size), fun h => by cases h⟩
                      · by_cases hmany : 300 < (out.length : Int)
                        · go_wp2_with (first | (go_at_call 20; refine (HE2.out _ C4.out).mono ?_; rintro e w3 ⟨d0, d1, d2, d3, b1, rfl, hb2, hres⟩; obtain ⟨rfl, ay, ly, cy, rfl, rfl, rfl, rfl⟩ := evRes_some hres HEY.out; have B6 := hb2.alloc hb2.size (.cells #[.int .u8 1, .int .i64 ny, .string sy, .slice ay ly cy] 32); have C6 := Lib.hid (C4.out.trans (B6.mono C4.out.size)); have r0 := (B6.cell (p := ⟨w2.heap.size, 0, none⟩) (by simp)).trans (cells_at (World.alloc_heap_new w2 (.cells #[.int .u8 1, .int .i64 nx, .string sx, .slice ax lx cx] 32)) 0 _ rfl); have r1 := (B6.cell (p := ⟨w2.heap.size, 1, none⟩) (by simp)).trans (cells_at (World.alloc_heap_new w2 (.cells #[.int .u8 1, .int .i64 nx, .string sx, .slice ax lx cx] 32)) 1 _ rfl); have S3 := Lib.hid hb2; clear hb2 hres B6) | (go_at_call 20; refine (HE1.out _ C1.out).mono ?_; rintro e w2 ⟨d0, d1, d2, d3, b1, rfl, hb2, hres⟩; obtain ⟨rfl, ax, lx, cx, rfl, rfl, rfl, rfl⟩ := evRes_some hres HEX.out; have B4 := hb2.alloc hb2.size (.cells #[.int .u8 1, .int .i64 nx, .string sx, .slice ax lx cx] 32); have C4 := Lib.hid (C1.out.trans (B4.mono C1.out.size)); have q3 := (B4.cell (p := ⟨wr.heap.size, 3, none⟩) (by simp)).trans (cells_at (World.alloc_heap_new wr (.cells #[.int .u8 6, .int .i64 n, .string s, .slice (some ⟨bU, oU, none⟩) 2 uc] 32)) 3 _ rfl); have z0 := HZ.out.1 _ C4.out; have z1 := HZ.out.2.1 _ C4.out; have z2 := HZ.out.2.2.1 _ C4.out; have z3 := HZ.out.2.2.2 _ C4.out; have S2 := Lib.hid hb2; clear hb2 hres B4))
                          go_ret2
                          exact ⟨_, false, rfl, HBr.out.trans ((HB.out.trans (C6.out.mono zB)).mono HBr.out.size), fun h => by cases h⟩
                        · have hol3 : out.length ≤ 300 := by omega
                          obtain ⟨xo, hXO, hXH, _⟩ := HV.out
                          have HXO := Lib.hid hXO
                          have HXH := Lib.hid hXH
                          clear hXO hXH
                          go_wp2_with (first | (go_at_call 20; refine (HE2.out _ C4.out).mono ?_; rintro e w3 ⟨d0, d1, d2, d3, b1, rfl, hb2, hres⟩; obtain ⟨rfl, ay, ly, cy, rfl, rfl, rfl, rfl⟩ := evRes_some hres HEY.out; have B6 := hb2.alloc hb2.size (.cells #[.int .u8 1, .int .i64 ny, .string sy, .slice ay ly cy] 32); have C6 := Lib.hid (C4.out.trans (B6.mono C4.out.size)); have r0 := (B6.cell (p := ⟨w2.heap.size, 0, none⟩) (by simp)).trans (cells_at (World.alloc_heap_new w2 (.cells #[.int .u8 1, .int .i64 nx, .string sx, .slice ax lx cx] 32)) 0 _ rfl); have r1 := (B6.cell (p := ⟨w2.heap.size, 1, none⟩) (by simp)).trans (cells_at (World.alloc_heap_new w2 (.cells #[.int .u8 1, .int .i64 nx, .string sx, .slice ax lx cx] 32)) 1 _ rfl); have S3 := Lib.hid hb2; clear hb2 hres B6) | (go_at_call 20; refine (HE1.out _ C1.out).mono ?_; rintro e w2 ⟨d0, d1, d2, d3, b1, rfl, hb2, hres⟩; obtain ⟨rfl, ax, lx, cx, rfl, rfl, rfl, rfl⟩ := evRes_some hres HEX.out; have B4 := hb2.alloc hb2.size (.cells #[.int .u8 1, .int .i64 nx, .string sx, .slice ax lx cx] 32); have C4 := Lib.hid (C1.out.trans (B4.mono C1.out.size)); have q3 := (B4.cell (p := ⟨wr.heap.size, 3, none⟩) (by simp)).trans (cells_at (World.alloc_heap_new wr (.cells #[.int .u8 6, .int .i64 n, .string s, .slice (some ⟨bU, oU, none⟩) 2 uc] 32)) 3 _ rfl); have z0 := HZ.out.1 _ C4.out; have z1 := HZ.out.2.1 _ C4.out; have z2 := HZ.out.2.2.1 _ C4.out; have z3 := HZ.out.2.2.2 _ C4.out; have S2 := Lib.hid hb2; clear hb2 hres B4) | (go_at_call 30; refine (lints_any nx ny hrx hry (by omega) _).mono ?_; rintro e w5 ⟨v5, rfl, hv5, hb5⟩; obtain ⟨y5, hY, hYH, _⟩ := hv5; have C8 := Lib.hid (C6.out.trans (hb5.mono C6.out.size)); have HYH := Lib.hid hYH; have HY := Lib.hid hY; clear hb5 hYH hY) | (at_builtin; refine wpList_append_terms rfl _ _ rfl w.heap.size (.slice va out.length vc) out.length xo rfl (own_grown HXO.out C8.out) v5 _ y5 rfl HY.out (oneCells HYH.out) ?c4 ?c5 ?_))
                          case c4 =>
                            have : ((spanL nx ny).map numT).length ≤ 301 := by rw [List.length_map, spanL_length]; omega
                            omega
                          case c5 => have := C8.out.size; have := HBr.out.size; omega
                          intro v' w' hown' hgrow hat
                          have zC := C8.out.size
                          have hsl : ((spanL nx ny).map numT).length ≤ 301 := by rw [List.length_map, spanL_length]; omega
                          have hV' : Vals none w.heap.size w' v' (out ++ (spanL nx ny).map numT) := Vals.app (HXH.out.keep fun b hf => ⟨⟨hf.1, Nat.lt_of_lt_of_le hf.2.1 zC, hf.2.2⟩, C8.out.block b hf.2.1⟩) (fun g e => by cases e)
                            (HYH.out.keep fun b hf => ⟨⟨by have := hf.1; have := C6.out.size; omega, hf.2.1, fun e => by have h1 := (HXO.out.lt b e).2; have h2 := hf.1; have := C6.out.size; omega, by simp⟩, rfl⟩) (by rw [List.length_map]; exact hown') hgrow hat
                          have hGx : ∀ g, v'.ownBlock = some g → WR.heap.size ≤ g := fun g e => by
                            rcases hat with h | h
                            · exact HG.out g (h ▸ e)
                            · rw [h] at e; cases e; omega
                          have hBx : Below WR.heap.size WR w' := (HB.out.trans (C8.out.mono zB)).grown hgrow (by omega) (fun k e => HG.out k e)
                          have HV2 := Lib.hid hV'
                          have HG2 := Lib.hid hGx
                          have HB2 := Lib.hid hBx
                          clear hV' hGx hBx hown' hgrow hat
                          go_wp2
                          go_roundw
                          case rel => exact ⟨r + 1, out ++ (spanL nx ny).map numT, by omega, by go_num, by rw [outR_take hrl HO.out, if_pos rfl, HXY.out]; simp only [spanRows, HRS.out]; rw [if_neg (by omega)], by rw [List.length_append]; omega, HV2.out, HG2.out, HB2.out⟩
                          case measure => simp [intOf]; omega
                    · subst hk1
                      have HRS := Lib.hid (show rowSpan [x, y] = none by simp [rowSpan, HEX.out, HEY.out, Tm.kind, hk2])
                      go_wp2_with (first | (go_at_call 20; refine (HE2.out _ C4.out).mono ?_; rintro e w3 ⟨d0, d1, d2, d3, b1, rfl, hb2, hres⟩; obtain ⟨rfl, ay, ly, cy, rfl, rfl, rfl, rfl⟩ := evRes_some hres HEY.out; have B6 := hb2.alloc hb2.size (.cells #[.int .u8 ky, .int .i64 ny, .string sy, .slice ay ly cy] 32); have C6 := Lib.hid (C4.out.trans (B6.mono C4.out.size)); have r0 := (B6.cell (p := ⟨w2.heap.size, 0, none⟩) (by simp)).trans (cells_at (World.alloc_heap_new w2 (.cells #[.int .u8 1, .int .i64 nx, .string sx, .slice ax lx cx] 32)) 0 _ rfl); have r1 := (B6.cell (p := ⟨w2.heap.size, 1, none⟩) (by simp)).trans (cells_at (World.alloc_heap_new w2 (.cells #[.int .u8 1, .int .i64 nx, .string sx, .slice ax lx cx] 32)) 1 _ rfl); have S3 := Lib.hid hb2; clear hb2 hres B6) | (go_at_call 20; refine (HE1.out _ C1.out).mono ?_; rintro e w2 ⟨d0, d1, d2, d3, b1, rfl, hb2, hres⟩; obtain ⟨rfl, ax, lx, cx, rfl, rfl, rfl, rfl⟩ := evRes_some hres HEX.out; have B4 := hb2.alloc hb2.size (.cells #[.int .u8 1, .int .i64 nx, .string sx, .slice ax lx cx] 32); have C4 := Lib.hid (C1.out.trans (B4.mono C1.out.size)); have q3 := (B4.cell (p := ⟨wr.heap.size, 3, none⟩) (by simp)).trans (cells_at (World.alloc_heap_new wr (.cells #[.int .u8 6, .int .i64 n, .string s, .slice (some ⟨bU, oU, none⟩) 2 uc] 32)) 3 _ rfl); have z0 := HZ.out.1 _ C4.out; have z1 := HZ.out.2.1 _ C4.out; have z2 := HZ.out.2.2.1 _ C4.out; have z3 := HZ.out.2.2.2 _ C4.out; have S2 := Lib.hid hb2; clear hb2 hres B4))
                      go_roundw
                      case rel => exact ⟨r + 1, out, by omega, by go_num, by rw [outR_take hrl HO.out, if_pos rfl, HXY.out]; simp only [spanRows, HRS.out], hol, HV.out.grow C6.out, HG.out, HB.out.trans (C6.out.mono zB)⟩
                      case measure => simp [intOf]; omega
                  · have HRS := Lib.hid (show rowSpan [x, y] = none by simp [rowSpan, HEX.out, HEY.out, Tm.kind, hk1])
                    go_wp2_with (first | (go_at_call 20; refine (HE2.out _ C4.out).mono ?_; rintro e w3 ⟨d0, d1, d2, d3, b1, rfl, hb2, hres⟩; obtain ⟨rfl, ay, ly, cy, rfl, rfl, rfl, rfl⟩ := evRes_some hres HEY.out; have B6 := hb2.alloc hb2.size (.cells #[.int .u8 ky, .int .i64 ny, .string sy, .slice ay ly cy] 32); have C6 := Lib.hid (C4.out.trans (B6.mono C4.out.size)); have r0 := (B6.cell (p := ⟨w2.heap.size, 0, none⟩) (by simp)).trans (cells_at (World.alloc_heap_new w2 (.cells #[.int .u8 kx, .int .i64 nx, .string sx, .slice ax lx cx] 32)) 0 _ rfl); have r1 := (B6.cell (p := ⟨w2.heap.size, 1, none⟩) (by simp)).trans (cells_at (World.alloc_heap_new w2 (.cells #[.int .u8 kx, .int .i64 nx, .string sx, .slice ax lx cx] 32)) 1 _ rfl); have S3 := Lib.hid hb2; clear hb2 hres B6) | (go_at_call 20; refine (HE1.out _ C1.out).mono ?_; rintro e w2 ⟨d0, d1, d2, d3, b1, rfl, hb2, hres⟩; obtain ⟨rfl, ax, lx, cx, rfl, rfl, rfl, rfl⟩ := evRes_some hres HEX.out; have B4 := hb2.alloc hb2.size (.cells #[.int .u8 kx, .int .i64 nx, .string sx, .slice ax lx cx] 32); have C4 := Lib.hid (C1.out.trans (B4.mono C1.out.size)); have q3 := (B4.cell (p := ⟨wr.heap.size, 3, none⟩) (by simp)).trans (cells_at (World.alloc_heap_new wr (.cells #[.int .u8 6, .int .i64 n, .string s, .slice (some ⟨bU, oU, none⟩) 2 uc] 32)) 3 _ rfl); have z0 := HZ.out.1 _ C4.out; have z1 := HZ.out.2.1 _ C4.out; have z2 := HZ.out.2.2.1 _ C4.out; have z3 := HZ.out.2.2.2 _ C4.out; have S2 := Lib.hid hb2; clear hb2 hres B4))
                    go_roundw
                    case rel => exact ⟨r + 1, out, by omega, by go_num, by rw [outR_take hrl HO.out, if_pos rfl, HXY.out]; simp only [spanRows, HRS.out], hol, HV.out.grow C6.out, HG.out, HB.out.trans (C6.out.mono zB)⟩
                    case measure => simp [intOf]; omega
            · obtain ⟨xo, hXO, hXH, _⟩ := HV.out
              have HXO := Lib.hid hXO
              have HXH := Lib.hid hXH
              obtain ⟨va, vc, rfl⟩ := HV.out.shape
              have C1 := Lib.hid ((Below.refl _ wr).alloc (Nat.le_refl _) (.cells #[.int .u8 k, .int .i64 n, .string s, .slice ua R[r].length uc] 32))
              have k0 := (C1.out.cell (p := ⟨w.heap.size, 0, none⟩) (Array.getElem?_eq_some_iff.1 Q3.out).1).trans (cells_at Q3.out 0 _ rfl)
              obtain ⟨i0, hi, hz0, hz1, hz2⟩ := info_parts info_term
              have hr300 := HR300.out
              have hor : k ≠ 6 → out.length = r := fun h => by
                have h1 := HO.out
                unfold outR at h1
                rw [if_neg h] at h1
                cases h1
                rw [List.length_map, List.length_take]
                omega
              have HO3 := Lib.hid (show out.length ≤ 300 by rw [hor h6]; omega)
              clear hor hXO hXH
              go_wp2_with (at_builtin; refine wpList_append_own_at _ rfl _ _ 30 rfl w.heap.size 32 i0 _ 4 56 Tryz.underlying30 hi hz0 hz1 hz2 rfl (by decide) (.slice va out.length vc) out.length xo rfl ?c0 _ 1 1 [.int .u8 k, .int .i64 n, .string s, .slice ua R[r].length uc] rfl rfl ?c1 ?c2 ?c3 ?c4 ?c5 ?_)
              case c0 => exact own_grown HXO.out (C1.out.alloc C1.out.size _)
              case c1 =>
                intro jj u' hu'
                have hn := World.alloc_heap_new (wr.alloc (.cells #[.int .u8 k, .int .i64 n, .string s, .slice ua R[r].length uc] 32)) (.cells #[.int .u8 k, .int .i64 n, .string s, .slice ua R[r].length uc] 32)
                rw [World.size_alloc] at hn
                rcases jj with _ | _ | _ | _ | jj
                · cases hu'; exact cells_at hn 0 _ rfl
                · cases hu'; exact cells_at hn 1 _ rfl
                · cases hu'; exact cells_at hn 2 _ rfl
                · cases hu'; exact cells_at hn 3 _ rfl
                · simp at hu'
              case c2 => simp [Value.oneCell']
              case c3 => have := HO3.out; unfold maxLen; omega
              case c4 => have := HO3.out; omega
              case c5 => have := C1.out.size; have := HBr.out.size; simp; omega
              intro v' w' hown' hgrow _ hat
              have C2 := C1.out.alloc C1.out.size (.cells #[.int .u8 k, .int .i64 n, .string s, .slice ua R[r].length uc] 32)
              have zC := C2.size
              have hV' : Vals none w.heap.size w' v' (out ++ [.mk k n s R[r]]) := Vals.app (us := [.mk k n s R[r]]) (HXH.out.keep fun b hf => ⟨⟨hf.1, Nat.lt_of_lt_of_le hf.2.1 zC, hf.2.2⟩, C2.block b hf.2.1⟩) (fun g e => by cases e)
                (HoldL.one (by
                  obtain ⟨ua', uc', e, hlm, hrow⟩ := HUI.out
                  simp only [Value.slice.injEq, true_and] at e
                  obtain ⟨rfl, rfl⟩ := e
                  simp only [IsTmIn]
                  have hkp : ∀ b, (w.heap.size ≤ b ∧ b < WR.heap.size ∧ (Value.slice (some ⟨gR, 0, none⟩) R.length rc).ownBlock ≠ some b) → Far none w.heap.size ((wr.alloc (.cells #[.int .u8 k, .int .i64 n, .string s, .slice ua R[r].length uc] 32)).alloc (.cells #[.int .u8 k, .int .i64 n, .string s, .slice ua R[r].length uc] 32)) (.slice va out.length vc) b ∧ ((wr.alloc (.cells #[.int .u8 k, .int .i64 n, .string s, .slice ua R[r].length uc] 32)).alloc (.cells #[.int .u8 k, .int .i64 n, .string s, .slice ua R[r].length uc] 32)).heap[b]? = WR.heap[b]? := fun b hf =>
                    ⟨⟨hf.1, by have := hf.2.1; omega, fun e => by have h1 := HG.out b e; have := hf.2.1; omega, by simp⟩, (HB.out.trans (C2.mono zB)).block b hf.2.1⟩
                  refine ⟨trivial, HK0.out, trivial, HN0.out, trivial, HS0.out, ua, uc, rfl, hlm, fun hne => ?_⟩
                  obtain ⟨b, off, hu, hb, hI⟩ := hrow hne
                  exact ⟨b, off, hu, (hkp b hb).1, hI.keep (fun b hf => hkp b hf) hb⟩)) hown' hgrow (by simpa using hat)
              have hGx : ∀ g, v'.ownBlock = some g → WR.heap.size ≤ g := fun g e => by
                rcases hat with h | h
                · exact HG.out g (h ▸ e)
                · rw [h] at e; cases e; first | omega | (simp; omega)
              have hBx : Below WR.heap.size WR w' := (HB.out.trans (C2.mono zB)).grown hgrow (by omega) (fun k e => HG.out k e)
              have HV2 := Lib.hid hV'
              have HG2 := Lib.hid hGx
              have HB2 := Lib.hid hBx
              clear hV' hGx hBx hown' hgrow hat
              go_wp2
              go_roundw
              case rel => exact ⟨r + 1, out ++ [.mk k n s R[r]], by omega, by go_num, by rw [outR_take hrl HO.out, if_neg h6], by have := HO3.out; rw [List.length_append]; simp; omega, HV2.out, HG2.out, HB2.out⟩
              case measure => simp [intOf]; omega
          · have i2 : ¬ (r : Int) < (R.length : Int) := by omega
            have hrR : r = R.length := by omega
            have HP := Lib.hid (show out.length ≤ 300 → plainM (.mk k n s us) = some out from fun h => by
              have h1 := HO.out
              rw [hrR, List.take_of_length_le (Nat.le_refl _)] at h1
              simp only [plainM, HRU.out, Option.bind_some]
              unfold outR at h1
              rw [h1, Option.bind_some, if_pos h])
            obtain ⟨va, vc, rfl⟩ := HV.out.shape
            have HF := Lib.hid (HBr.out.trans (HB.out.mono HBr.out.size))
            go_wp2
            go_ret2
            exact ⟨_, _, rfl, HF.out, fun h => ⟨out, HP.out (by have h1 := of_decide_eq_true h; omega), HV.out⟩⟩
end
section
open Go.RowKit Go.Shelf

/-- What plain gives. -/
def PlainPost (t : Tm) (w : World) (e : Ending) (w' : World) : Prop := ∃ v b, e = .returned (.tuple #[v, .bool b]) ∧ Below w.heap.size w w' ∧ (b = true → ∃ all, plainM t = some all ∧ RowV w' v all)
theorem compare_evr {w : World} {a0 a1 a2 a3 b0 b1 b2 b3 : Value} {ta tb : Tm} (hA : IsTm w.heap.size w a0 a1 a2 a3 ta) (hB : IsTm w.heap.size w b0 b1 b2 b3 tb) :
    Evr w 19 #[.agg #[a0, a1, a2, a3], .agg #[b0, b1, b2, b3]] (.int .i64 (Tm.cmp ta tb)) := fun w' h => compare_any w.heap.size ta tb _ _ _ _ _ _ _ _ w' (hA.below h) (hB.below h) h.size
theorem size_evr {w : World} {a0 a1 a2 a3 : Value} {t : Tm} {m : Int} (hA : IsTm w.heap.size w a0 a1 a2 a3 t) (h0 : -1000000000 ≤ m) (h1 : m ≤ 1000000000) :
    Evr w 13 #[.agg #[a0, a1, a2, a3], .int .i64 m] (.int .i64 (sizeT t m)) := fun w' h => sizeTerm_any t _ _ _ _ m w' ((hA.below h).mono h.size) h0 h1
def bzDescs3 (k n sz : Int) (s : ByteArray) (us : List Tm) (a : Option Addr) (cap _ : Nat) (VB GB : Bool) (B19 : Bool) : List Du := [.val (.agg #[.int .u8 k, .int .i64 n, .string s, .slice a us.length cap]), .val (.int .i64 (sz)), .val (.bool (B19)), .val (.bool (B19)), .val (cond (gon (true) (B19) false) (.agg #[.int .u8 k, .int .i64 n, .string s, .slice a us.length cap]) undef), .val (cond (gon (true) (B19) false) (.bool (VB)) undef), .val (cond (gon (true) (B19) false) (.bool (!(VB))) undef), .val (.bool ((B19 || !(VB)))), .val (.bool ((B19 || !(VB)))), .val (cond (gon (true) ((B19 || !(VB))) false) (.agg #[.int .u8 k, .int .i64 n, .string s, .slice a us.length cap]) undef), .val (cond (gon (true) ((B19 || !(VB))) false) (.bool (GB)) undef), .val (cond (gon (true) ((B19 || !(VB))) false) (.bool (!(GB))) undef), .val (.bool (((B19 || !(VB)) || !(GB))))]
def bzDescs10 (l : List Tm) (bl ol lc j : Nat) (p0 p1 p2 p3 q0 q1 q2 q3 : Value) (CJ : Int) (B54 B66 : Bool) : List Du := [.val (.slice (some ⟨bl, ol, none⟩) l.length lc), .val (.int .i64 ((j : Int))), .val (.pointer (some ⟨bl, ol + j * 4, none⟩)), .val (.agg #[p0, p1, p2, p3]), .val (.bool (true)), .val (.bool (!(true))), .val (.bool (!(true))), .val (cond (gon (true) (!(true)) false) (.int .i64 ((j : Int))) undef), .val (cond (gon (true) (!(true)) false) (.bool (B54)) undef), .val (cond (gon (true) (!(true)) false) (.bool (B54)) undef), .val (cond (gon (gon (true) (!(true)) false) (B54) true) (.slice (some ⟨bl, ol, none⟩) l.length lc) undef), .val (cond (gon (gon (true) (!(true)) false) (B54) true) (.int .i64 ((j : Int))) undef), .val (cond (gon (gon (true) (!(true)) false) (B54) true) (.int .i64 ((j : Int) - 1)) undef), .val (cond (gon (gon (true) (!(true)) false) (B54) true) (.pointer (some ⟨bl, ol + (j - 1) * 4, none⟩)) undef), .val (cond (gon (gon (true) (!(true)) false) (B54) true) (.agg #[q0, q1, q2, q3]) undef), .val (cond (gon (gon (true) (!(true)) false) (B54) true) (.slice (some ⟨bl, ol, none⟩) l.length lc) undef), .val (cond (gon (gon (true) (!(true)) false) (B54) true) (.int .i64 ((j : Int))) undef), .val (cond (gon (gon (true) (!(true)) false) (B54) true) (.pointer (some ⟨bl, ol + j * 4, none⟩)) undef), .val (cond (gon (gon (true) (!(true)) false) (B54) true) (.agg #[p0, p1, p2, p3]) undef), .val (cond (gon (gon (true) (!(true)) false) (B54) true) (.int .i64 (CJ)) undef), .val (cond (gon (gon (true) (!(true)) false) (B54) true) (.bool (B66)) undef), .val (cond (gon (true) (!(true)) false) (.bool ((B54 && B66))) undef), .val (.bool ((!(true) || (B54 && B66))))]
def bzDescs24 (l ys : List Tm) (bl ol lc q _ : Nat) (kx nx : Int) (sx : ByteArray) (xa : Option Addr) (xcap : Nat) (p0 p1 p2 p3 : Value) (EB : Bool)  : List Du := [.val (.slice (some ⟨bl, ol, none⟩) l.length lc), .val (.int .i64 ((q : Int))), .val (.pointer (some ⟨bl, ol + q * 4, none⟩)), .val (.agg #[p0, p1, p2, p3]), .val (.agg #[.int .u8 kx, .int .i64 nx, .string sx, .slice xa ys.length xcap]), .val (.bool (EB))]
set_option maxRecDepth 100000 in
set_option maxHeartbeats 40000000 in
theorem expands_any (k n : Int) (s : ByteArray) (us : List Tm) (c0 c1 c2 c3 : Value) (w : World) (hT0 : IsTm w.heap.size w c0 c1 c2 c3 (.mk k n s us))
    (HAW0 : ∀ w, Calls Tryz.prog 8 #[] w fun e w' => e = .returned (.bool true) ∧ Below w.heap.size w w')
    (HPL0 : ∀ (t : Tm) (c0 c1 c2 c3 : Value) (w : World), IsTm w.heap.size w c0 c1 c2 c3 t → t.Wf → t.count ≤ 60 → Calls Tryz.prog 17 #[.agg #[c0, c1, c2, c3]] w (PlainPost t w)) :
    Calls Tryz.prog 4 #[.agg #[c0, c1, c2, c3]] w fun e w' => e = .returned (.bool true) ∧ Below w.heap.size w w' := by
  have hT1 := hT0
  simp only [IsTm] at hT1
  obtain ⟨rfl, _, rfl, _, rfl, _, a, cap, rfl, hl, _⟩ := hT1
  have HT0 := Lib.hid hT0
  have HAW := Lib.hid HAW0
  have HPL := Lib.hid HPL0
  have hB0 : Below w.heap.size w (w.alloc (.cells #[.int .u8 k, .int .i64 n, .string s, .slice a us.length cap] 32)) := (Below.refl _ w).alloc (Nat.le_refl _) _
  have r1 : Row4 w.heap.size #[.int .u8 k, .int .i64 n, .string s, .slice a us.length cap] (w.alloc (.cells #[.int .u8 k, .int .i64 n, .string s, .slice a us.length cap] 32)) := Row4.new w _
  clear hT0 HAW0 HPL0
  obtain ⟨n1, hn1⟩ : ∃ n1, w.heap.size = n1 := ⟨_, rfl⟩
  go_enter Tryz.func4, Tryz.ntmps4
  refine wp_seq_k fun K hK => ?_
  have HK := Lib.hid hK
  clear hK
  go_wp2_with fail
  revert hB0 r1
  generalize (w.alloc (.cells #[.int .u8 k, .int .i64 n, .string s, .slice a us.length cap] 32)) = W0
  intro hB0 r1
  rw [hn1] at r1
  have Q1 := Lib.hid r1
  have BW := Lib.hid hB0
  have HT := Lib.hid (show TmV W0 (.agg #[.int .u8 k, .int .i64 n, .string s, .slice a us.length cap]) (Tm.mk k n s us) from ⟨_, _, _, _, rfl, (HT0.out.below hB0).mono hB0.size⟩)
  clear r1 hB0 HT0
  refine HK.out _ _ ?_
  clear HK
  refine wp_seq_k fun K hK => ?_
  have HK := Lib.hid hK
  clear hK
  go_wp2_with (go_at_call 8; refine (HAW.out W0).mono ?_)
  rintro e W1 ⟨rfl, b⟩
  have q := Lib.hid (Q1.out.grow b)
  clear Q1
  have Q1 := q
  clear q
  have q := Lib.hid (HT.out.grow b)
  clear HT
  have HT := q
  clear q
  have q := Lib.hid (BW.out.trans (b.mono BW.out.size))
  clear b BW
  have BW := q
  clear q
  clear HAW
  go_wp2_with fail
  refine HK.out _ _ ?_
  clear HK
  refine wp_seq_k fun K hK => ?_
  have HK := Lib.hid hK
  clear hK
  refine wp_seq_k fun K hK => ?_
  have HK2 := Lib.hid hK
  clear hK
  obtain ⟨sz, hszq⟩ : ∃ sz, sizeT (Tm.mk k n s us) 60 = sz := ⟨_, rfl⟩
  have ES := Lib.hid (show Evr W1 13 #[.agg #[.int .u8 k, .int .i64 n, .string s, .slice a us.length cap], .int .i64 60] (.int .i64 sz) from hszq ▸ size_evr HT.out.isTm (by omega) (by omega))
  have HSZ := Lib.hid hszq
  clear hszq
  by_cases hle : 60 < sz
  · have x0 := cells_at Q1.out 0 _ rfl
    have x1 := cells_at Q1.out 1 _ rfl
    have x2 := cells_at Q1.out 2 _ rfl
    have x3 := cells_at Q1.out 3 _ rfl
    go_wp2_with (go_at_call 13; refine (ES.out W1 (Below.refl _ _)).mono ?_)
    rintro e W2 ⟨rfl, b⟩
    clear x0 x1 x2 x3
    have q := Lib.hid (Q1.out.grow b)
    clear Q1
    have Q1 := q
    clear q
    have q := Lib.hid (HT.out.grow b)
    clear HT
    have HT := q
    clear q
    have q := Lib.hid (BW.out.trans (b.mono BW.out.size))
    clear b BW
    have BW := q
    clear q
    go_wp2_with fail
    refine HK2.out _ _ ?_
    clear HK2
    go_wp2
    go_ret
    exact ⟨rfl, by first | exact BW.out | (rw [← hn1]; exact BW.out)⟩
  have hcnt : (Tm.mk k n s us).count ≤ 60 := by
    have h1 := sizeT_whole (Tm.mk k n s us) 60 (by rw [HSZ.out]; omega)
    rw [HSZ.out] at h1
    omega
  have hdp := Tm.depth_le_count (Tm.mk k n s us)
  have HCN := Lib.hid hcnt
  have HDP := Lib.hid (show (Tm.mk k n s us).depth < 4611686018427387900 by omega)
  obtain ⟨VB, hVB⟩ : ∃ x, (Tm.mk k n s us).validB = x := ⟨_, rfl⟩
  obtain ⟨GB, hGB⟩ : ∃ x, (Tm.mk k n s us).groundB = x := ⟨_, rfl⟩
  have EV := Lib.hid (show Evr W1 14 #[.agg #[.int .u8 k, .int .i64 n, .string s, .slice a us.length cap]] (.bool VB) from hVB ▸ fun w' h => valid_any (Tm.mk k n s us) _ _ _ _ w' ((HT.out.isTm.below h).mono h.size) HDP.out)
  have EG := Lib.hid (show Evr W1 15 #[.agg #[.int .u8 k, .int .i64 n, .string s, .slice a us.length cap]] (.bool GB) from hGB ▸ fun w' h => ground_any (Tm.mk k n s us) _ _ _ _ w' ((HT.out.isTm.below h).mono h.size) HDP.out)
  have HVB := Lib.hid hVB
  have HGB := Lib.hid hGB
  have HLE := Lib.hid hle
  clear hcnt hdp HSZ hVB hGB hle
  obtain ⟨B19, hB19⟩ : ∃ x : Bool, (decide (((sz : Int)) > (60))) = x := ⟨_, rfl⟩
  have hB19x : B19 = false := by
    have := HLE.out
    rw [← hB19, decide_eq_false_iff_not]
    omega
  have HM := Lib.hid (show (((B19 || !(VB)) || !(GB))) = !(VB && GB) by rw [hB19x]; cases VB <;> cases GB <;> rfl)
  clear hB19x
  refine wp_region_fix (FU (bzDescs3 k n sz s us a cap n1 VB GB B19)) (FU_grow _) (by kernel_rfl) (steps_fix ?_) ?_
  · refine ⟨?_, ?_, ?_, ?_, ?_, ?_, ?_, ?_, ?_, ?_, ?_, ?_, ?_, trivial⟩
    · intro ac wz hb hd hs ho hp
      refine Or.inl ⟨rfl, ?_⟩
      have h1 : ac.tmps.getD 1 undef = .pointer (some ⟨n1, 0, none⟩) := (ho 1 (by kernel_rfl)).trans rfl
      have hx := Q1.out.grow hb
      have x0 := cells_at hx 0 _ rfl
      have x1 := cells_at hx 1 _ rfl
      have x2 := cells_at hx 2 _ rfl
      have x3 := cells_at hx 3 _ rfl
      unfold Oper.wp
      go_simp
      exact Stepped.at rfl hd (Below.refl _ _) (FU_mk (.val (.agg #[.int .u8 k, .int .i64 n, .string s, .slice a us.length cap])) rfl (by show (_ : Value) = _; first | rfl | (first | rfl | simp) | (simp [*])))
    · intro ac wz hb hd hs ho hp
      refine Or.inl ⟨rfl, ?_⟩
      have h17 : ac.tmps.getD 17 undef = .agg #[.int .u8 k, .int .i64 n, .string s, .slice a us.length cap] := ival_at hp 0 17 (by kernel_rfl) rfl
      unfold Oper.wp
      go_simp
      refine (ES.out _ hb).mono ?_
      rintro e2 w2 ⟨rfl, hb2⟩
      exact Stepped.at rfl hd (hb2) (FU_mk (.val (.int .i64 (sz))) rfl (by show (_ : Value) = _; first | rfl | simp))
    · intro ac wz hb hd hs ho hp
      refine Or.inl ⟨rfl, ?_⟩
      have h18 : ac.tmps.getD 18 undef = .int .i64 (sz) := ival_at hp 1 18 (by kernel_rfl) rfl
      unfold Oper.wp
      go_simp
      exact Stepped.at rfl hd (Below.refl _ _) (FU_mk (.val (.bool (B19))) rfl (by show (_ : Value) = _; first | rfl | (rw [← hB19]; first | rfl | simp) | (simp [*])))
    · intro ac wz hb hd hs ho hp
      refine Or.inl ⟨rfl, ?_⟩
      have h19 : ac.tmps.getD 19 undef = .bool (B19) := ival_at hp 2 19 (by kernel_rfl) rfl
      unfold Oper.wp
      go_simp
      exact Stepped.at rfl hd (Below.refl _ _) (FU_mk (.val (.bool (B19))) rfl (by show (_ : Value) = _; first | rfl | (first | rfl | simp) | (simp [*])))
    · intro ac wz hb hd hs ho hp
      have hg : ac.tmps.getD 20 undef = cond (true) (.bool (B19)) undef := ival_at hp 3 20 (by kernel_rfl) rfl
      rcases Bool.eq_false_or_eq_true (gon (true) (B19) false) with hc | hc
      rotate_left
      · exact Or.inr ⟨(wanted_gon (k := 3) (d := 20) rfl (by kernel_rfl) hg).trans hc, fun d hd => FU_mk (.val _) rfl (by rw [hc]; rfl)⟩
      refine Or.inl ⟨(wanted_gon (k := 3) (d := 20) rfl (by kernel_rfl) hg).trans hc, ?_⟩
      have HC := Lib.hid hc
      clear hg hc
      have h1 : ac.tmps.getD 1 undef = .pointer (some ⟨n1, 0, none⟩) := (ho 1 (by kernel_rfl)).trans rfl
      have hx := Q1.out.grow hb
      have x0 := cells_at hx 0 _ rfl
      have x1 := cells_at hx 1 _ rfl
      have x2 := cells_at hx 2 _ rfl
      have x3 := cells_at hx 3 _ rfl
      unfold Oper.wp
      go_simp
      exact Stepped.at rfl hd (Below.refl _ _) (FU_mk (.val (cond (gon (true) (B19) false) (.agg #[.int .u8 k, .int .i64 n, .string s, .slice a us.length cap]) undef)) rfl (by show (_ : Value) = _; first | rfl | (rw [HC.out]; first | rfl | simp) | (rw [HC.out]; simp [*])))
    · intro ac wz hb hd hs ho hp
      have hg : ac.tmps.getD 20 undef = cond (true) (.bool (B19)) undef := ival_at hp 3 20 (by kernel_rfl) rfl
      rcases Bool.eq_false_or_eq_true (gon (true) (B19) false) with hc | hc
      rotate_left
      · exact Or.inr ⟨(wanted_gon (k := 3) (d := 20) rfl (by kernel_rfl) hg).trans hc, fun d hd => FU_mk (.val _) rfl (by rw [hc]; rfl)⟩
      refine Or.inl ⟨(wanted_gon (k := 3) (d := 20) rfl (by kernel_rfl) hg).trans hc, ?_⟩
      have HC := Lib.hid hc
      clear hg hc
      have h21 : ac.tmps.getD 21 undef = cond (gon (true) (B19) false) (.agg #[.int .u8 k, .int .i64 n, .string s, .slice a us.length cap]) undef := ival_at hp 4 21 (by kernel_rfl) rfl
      rw [HC.out, cond_true] at h21
      unfold Oper.wp
      go_simp
      refine (EV.out _ hb).mono ?_
      rintro e2 w2 ⟨rfl, hb2⟩
      exact Stepped.at rfl hd (hb2) (FU_mk (.val (cond (gon (true) (B19) false) (.bool (VB)) undef)) rfl (by show (_ : Value) = _; rw [HC.out]; first | rfl | simp))
    · intro ac wz hb hd hs ho hp
      have hg : ac.tmps.getD 20 undef = cond (true) (.bool (B19)) undef := ival_at hp 3 20 (by kernel_rfl) rfl
      rcases Bool.eq_false_or_eq_true (gon (true) (B19) false) with hc | hc
      rotate_left
      · exact Or.inr ⟨(wanted_gon (k := 3) (d := 20) rfl (by kernel_rfl) hg).trans hc, fun d hd => FU_mk (.val _) rfl (by rw [hc]; rfl)⟩
      refine Or.inl ⟨(wanted_gon (k := 3) (d := 20) rfl (by kernel_rfl) hg).trans hc, ?_⟩
      have HC := Lib.hid hc
      clear hg hc
      have h22 : ac.tmps.getD 22 undef = cond (gon (true) (B19) false) (.bool (VB)) undef := ival_at hp 5 22 (by kernel_rfl) rfl
      rw [HC.out, cond_true] at h22
      unfold Oper.wp
      go_simp
      exact Stepped.at rfl hd (Below.refl _ _) (FU_mk (.val (cond (gon (true) (B19) false) (.bool (!(VB))) undef)) rfl (by show (_ : Value) = _; first | rfl | (rw [HC.out]; first | rfl | simp) | (rw [HC.out]; simp [*])))
    · intro ac wz hb hd hs ho hp
      refine Or.inl ⟨rfl, ?_⟩
      have h20 : ac.tmps.getD 20 undef = .bool (B19) := ival_at hp 3 20 (by kernel_rfl) rfl
      rcases Bool.eq_false_or_eq_true (B19) with e | e
      · rw [e] at h20
        have E := Lib.hid e
        clear e
        unfold Oper.wp
        go_simp
        exact Stepped.at rfl hd (Below.refl _ _) (FU_mk (.val (.bool ((B19 || !(VB))))) rfl (by show (_ : Value) = _; first | (simp only [E.out, Bool.true_or]; done) | simp [E.out]))
      · rw [e] at h20
        have E := Lib.hid e
        clear e
        have h23 : ac.tmps.getD 23 undef = cond (gon (true) (B19) false) (.bool (!(VB))) undef := ival_at hp 6 23 (by kernel_rfl) rfl
        rw [gon_mk rfl E.out, cond_true] at h23
        unfold Oper.wp
        go_simp
        exact Stepped.at rfl hd (Below.refl _ _) (FU_mk (.val (.bool ((B19 || !(VB))))) rfl (by show (_ : Value) = _; first | (simp only [E.out, Bool.false_or]; done) | simp [E.out]))
    · intro ac wz hb hd hs ho hp
      refine Or.inl ⟨rfl, ?_⟩
      have h24 : ac.tmps.getD 24 undef = .bool ((B19 || !(VB))) := ival_at hp 7 24 (by kernel_rfl) rfl
      unfold Oper.wp
      go_simp
      exact Stepped.at rfl hd (Below.refl _ _) (FU_mk (.val (.bool ((B19 || !(VB))))) rfl (by show (_ : Value) = _; first | rfl | (first | rfl | simp) | (simp [*])))
    · intro ac wz hb hd hs ho hp
      have hg : ac.tmps.getD 25 undef = cond (true) (.bool ((B19 || !(VB)))) undef := ival_at hp 8 25 (by kernel_rfl) rfl
      rcases Bool.eq_false_or_eq_true (gon (true) ((B19 || !(VB))) false) with hc | hc
      rotate_left
      · exact Or.inr ⟨(wanted_gon (k := 8) (d := 25) rfl (by kernel_rfl) hg).trans hc, fun d hd => FU_mk (.val _) rfl (by rw [hc]; rfl)⟩
      refine Or.inl ⟨(wanted_gon (k := 8) (d := 25) rfl (by kernel_rfl) hg).trans hc, ?_⟩
      have HC := Lib.hid hc
      clear hg hc
      have h1 : ac.tmps.getD 1 undef = .pointer (some ⟨n1, 0, none⟩) := (ho 1 (by kernel_rfl)).trans rfl
      have hx := Q1.out.grow hb
      have x0 := cells_at hx 0 _ rfl
      have x1 := cells_at hx 1 _ rfl
      have x2 := cells_at hx 2 _ rfl
      have x3 := cells_at hx 3 _ rfl
      unfold Oper.wp
      go_simp
      exact Stepped.at rfl hd (Below.refl _ _) (FU_mk (.val (cond (gon (true) ((B19 || !(VB))) false) (.agg #[.int .u8 k, .int .i64 n, .string s, .slice a us.length cap]) undef)) rfl (by show (_ : Value) = _; first | rfl | (rw [HC.out]; first | rfl | simp) | (rw [HC.out]; simp [*])))
    · intro ac wz hb hd hs ho hp
      have hg : ac.tmps.getD 25 undef = cond (true) (.bool ((B19 || !(VB)))) undef := ival_at hp 8 25 (by kernel_rfl) rfl
      rcases Bool.eq_false_or_eq_true (gon (true) ((B19 || !(VB))) false) with hc | hc
      rotate_left
      · exact Or.inr ⟨(wanted_gon (k := 8) (d := 25) rfl (by kernel_rfl) hg).trans hc, fun d hd => FU_mk (.val _) rfl (by rw [hc]; rfl)⟩
      refine Or.inl ⟨(wanted_gon (k := 8) (d := 25) rfl (by kernel_rfl) hg).trans hc, ?_⟩
      have HC := Lib.hid hc
      clear hg hc
      have h26 : ac.tmps.getD 26 undef = cond (gon (true) ((B19 || !(VB))) false) (.agg #[.int .u8 k, .int .i64 n, .string s, .slice a us.length cap]) undef := ival_at hp 9 26 (by kernel_rfl) rfl
      rw [HC.out, cond_true] at h26
      unfold Oper.wp
      go_simp
      refine (EG.out _ hb).mono ?_
      rintro e2 w2 ⟨rfl, hb2⟩
      exact Stepped.at rfl hd (hb2) (FU_mk (.val (cond (gon (true) ((B19 || !(VB))) false) (.bool (GB)) undef)) rfl (by show (_ : Value) = _; rw [HC.out]; first | rfl | simp))
    · intro ac wz hb hd hs ho hp
      have hg : ac.tmps.getD 25 undef = cond (true) (.bool ((B19 || !(VB)))) undef := ival_at hp 8 25 (by kernel_rfl) rfl
      rcases Bool.eq_false_or_eq_true (gon (true) ((B19 || !(VB))) false) with hc | hc
      rotate_left
      · exact Or.inr ⟨(wanted_gon (k := 8) (d := 25) rfl (by kernel_rfl) hg).trans hc, fun d hd => FU_mk (.val _) rfl (by rw [hc]; rfl)⟩
      refine Or.inl ⟨(wanted_gon (k := 8) (d := 25) rfl (by kernel_rfl) hg).trans hc, ?_⟩
      have HC := Lib.hid hc
      clear hg hc
      have h27 : ac.tmps.getD 27 undef = cond (gon (true) ((B19 || !(VB))) false) (.bool (GB)) undef := ival_at hp 10 27 (by kernel_rfl) rfl
      rw [HC.out, cond_true] at h27
      unfold Oper.wp
      go_simp
      exact Stepped.at rfl hd (Below.refl _ _) (FU_mk (.val (cond (gon (true) ((B19 || !(VB))) false) (.bool (!(GB))) undef)) rfl (by show (_ : Value) = _; first | rfl | (rw [HC.out]; first | rfl | simp) | (rw [HC.out]; simp [*])))
    · intro ac wz hb hd hs ho hp
      refine Or.inl ⟨rfl, ?_⟩
      have h25 : ac.tmps.getD 25 undef = .bool ((B19 || !(VB))) := ival_at hp 8 25 (by kernel_rfl) rfl
      rcases Bool.eq_false_or_eq_true ((B19 || !(VB))) with e | e
      · rw [e] at h25
        have E := Lib.hid e
        clear e
        unfold Oper.wp
        go_simp
        exact Stepped.at rfl hd (Below.refl _ _) (FU_mk (.val (.bool (((B19 || !(VB)) || !(GB))))) rfl (by show (_ : Value) = _; first | (simp only [E.out, Bool.true_or]; done) | simp [E.out]))
      · rw [e] at h25
        have E := Lib.hid e
        clear e
        have h28 : ac.tmps.getD 28 undef = cond (gon (true) ((B19 || !(VB))) false) (.bool (!(GB))) undef := ival_at hp 11 28 (by kernel_rfl) rfl
        rw [gon_mk rfl E.out, cond_true] at h28
        unfold Oper.wp
        go_simp
        exact Stepped.at rfl hd (Below.refl _ _) (FU_mk (.val (.bool (((B19 || !(VB)) || !(GB))))) rfl (by show (_ : Value) = _; first | (simp only [E.out, Bool.false_or]; done) | simp [E.out]))
  intro ac W2 hJ
  have f29 : ac.tmps.getD 29 undef = .bool (((B19 || !(VB)) || !(GB))) := FU_at (.val (.bool (((B19 || !(VB)) || !(GB))))) rfl (hJ.at_end 12 29 (by kernel_rfl))
  have e29 : (((B19 || !(VB)) || !(GB))) = !(VB && GB) := HM.out
  rw [e29] at f29
  clear e29
  obtain ⟨u17, f17⟩ : ∃ u, ac.tmps.getD 17 undef = u := ⟨_, rfl⟩
  obtain ⟨u18, f18⟩ : ∃ u, ac.tmps.getD 18 undef = u := ⟨_, rfl⟩
  obtain ⟨u19, f19⟩ : ∃ u, ac.tmps.getD 19 undef = u := ⟨_, rfl⟩
  obtain ⟨u20, f20⟩ : ∃ u, ac.tmps.getD 20 undef = u := ⟨_, rfl⟩
  obtain ⟨u21, f21⟩ : ∃ u, ac.tmps.getD 21 undef = u := ⟨_, rfl⟩
  obtain ⟨u22, f22⟩ : ∃ u, ac.tmps.getD 22 undef = u := ⟨_, rfl⟩
  obtain ⟨u23, f23⟩ : ∃ u, ac.tmps.getD 23 undef = u := ⟨_, rfl⟩
  obtain ⟨u24, f24⟩ : ∃ u, ac.tmps.getD 24 undef = u := ⟨_, rfl⟩
  obtain ⟨u25, f25⟩ : ∃ u, ac.tmps.getD 25 undef = u := ⟨_, rfl⟩
  obtain ⟨u26, f26⟩ : ∃ u, ac.tmps.getD 26 undef = u := ⟨_, rfl⟩
  obtain ⟨u27, f27⟩ : ∃ u, ac.tmps.getD 27 undef = u := ⟨_, rfl⟩
  obtain ⟨u28, f28⟩ : ∃ u, ac.tmps.getD 28 undef = u := ⟨_, rfl⟩
  have b := hJ.below
  obtain ⟨TT, DD⟩ := ac
  obtain rfl : DD = [] := hJ.defers
  have hE := slots_merge [false, false, false, false, false, false, false, false, false, false, false, false, false, false, false, false, false, true, true, true, true, true, true, true, true, true, true, true, true, true, false, false, false, false, false, false, false, false, false, false, false, false, false, false, false, false, false, false, false, false, false, false, false, false, false, false, false, false, false, false, false, false, false, false, false, false, false, false, false, false, false, false, false, false, false, false, false, false, false, false, false, false, false, false, false, false, false, false, false, false, false, false, false, false, false, false, false, false, false, false, false, false, false, false, false, false, false, false, false, false, false, false, false, false, false, false, false, false, false, false, false, false, false, false, false, false, false, false, false, false, false, false, false, false, false, false, false] 137 hJ.tmps rfl (by kernel_rfl) hJ.outer
  simp only [mergeFrom, Nat.zero_add, Nat.reduceAdd, f17, f18, f19, f20, f21, f22, f23, f24, f25, f26, f27, f28, f29] at hE
  clear hJ f17 f18 f19 f20 f21 f22 f23 f24 f25 f26 f27 f28 f29 hB19
  subst hE
  clear HM ES EV EG
  have q := Lib.hid (Q1.out.grow b)
  clear Q1
  have Q1 := q
  clear q
  have q := Lib.hid (HT.out.grow b)
  clear HT
  have HT := q
  clear q
  have q := Lib.hid (BW.out.trans (b.mono BW.out.size))
  clear b BW
  have BW := q
  clear q
  refine HK2.out _ _ ?_
  clear HK2
  cases hvg : (VB && GB) with
  | false =>
    go_wp2
    go_ret
    exact ⟨rfl, by first | exact BW.out | (rw [← hn1]; exact BW.out)⟩
  | true =>
  rw [Bool.and_eq_true] at hvg
  obtain ⟨rfl, rfl⟩ := hvg
  have HWF := Lib.hid (valid_wf HVB.out).1
  go_wp2_with fail
  refine HK.out _ _ ?_
  clear HK
  refine wp_seq_k fun K hK => ?_
  have HK := Lib.hid hK
  clear hK
  have x0 := cells_at Q1.out 0 _ rfl
  have x1 := cells_at Q1.out 1 _ rfl
  have x2 := cells_at Q1.out 2 _ rfl
  have x3 := cells_at Q1.out 3 _ rfl
  go_wp2_with (go_at_call 16; refine (expand_gives (Tm.mk k n s us) _ W2 HT.out HDP.out).mono ?_)
  rintro e W3 ⟨lv, er, rfl, hxr, b⟩
  have X1 := Lib.hid hxr
  clear hxr x0 x1 x2 x3
  have q := Lib.hid (Q1.out.grow b)
  clear Q1
  have Q1 := q
  clear q
  have q := Lib.hid (HT.out.grow b)
  clear HT
  have HT := q
  clear q
  have q := Lib.hid (BW.out.trans (b.mono BW.out.size))
  clear b BW
  have BW := q
  clear q
  go_wp2_with fail
  refine HK.out _ _ ?_
  clear HK
  refine wp_seq_k fun K hK => ?_
  have HK := Lib.hid hK
  clear hK
  have x0 := cells_at Q1.out 0 _ rfl
  have x1 := cells_at Q1.out 1 _ rfl
  have x2 := cells_at Q1.out 2 _ rfl
  have x3 := cells_at Q1.out 3 _ rfl
  go_wp2_with (go_at_call 17; refine (HPL.out (Tm.mk k n s us) _ _ _ _ W3 HT.out.isTm HWF.out HCN.out).mono ?_)
  rintro e W4 ⟨pv, pb, rfl, b, hpl⟩
  have HPP := Lib.hid hpl
  clear hpl x0 x1 x2 x3 HPL HCN HWF
  have q := Lib.hid (Q1.out.grow b)
  clear Q1
  have Q1 := q
  clear q
  have q := Lib.hid (HT.out.grow b)
  clear HT
  have HT := q
  clear q
  have q := Lib.hid (X1.out.grow b)
  clear X1
  have X1 := q
  clear q
  have q := Lib.hid (BW.out.trans (b.mono BW.out.size))
  clear b BW
  have BW := q
  clear q
  go_wp2_with fail
  refine HK.out _ _ ?_
  clear HK
  have hx0 : exR (Tm.mk k n s us) = some (Tm.mk k n s us).exp := by unfold exR; rw [HVB.out, HGB.out]; rfl
  cases hE : (Tm.mk k n s us).exp with
  | none =>
    obtain ⟨rfl, rfl⟩ := X1.out.many (by rw [hx0, hE])
    clear X1 HPP hx0
    go_wp2_with fail
    go_loopw [7] (fun i wr => i = .int .i64 0 ∧ Below W4.heap.size W4 wr) (fun i _ => 0)
    case atStart => exact ⟨rfl, Below.refl _ _⟩
    case round =>
      obtain ⟨rfl, hBr⟩ := hrel
      have HBw := Lib.hid (BW.out.trans (hBr.mono BW.out.size))
      clear hBr
      go_wp2
      go_ret
      exact ⟨rfl, by first | exact HBw.out | (rw [← hn1]; exact HBw.out)⟩
  | some l =>
    obtain ⟨rfl, hrow⟩ := X1.out.row (by rw [hx0, hE])
    obtain ⟨la, lc, rfl, hll, hlr⟩ := hrow
    have hl1000 := exp_le hE
    have HLR := Lib.hid hlr
    have HSO := Lib.hid (exp_sorted (Tm.mk k n s us) l hE)
    have HVL := Lib.hid (exp_values HVB.out HGB.out hE)
    have HE := Lib.hid hE
    clear X1 hx0 hE hlr hll
    go_wp2_with fail
    go_loopw [7] (fun i wr => ∃ j : Nat, j ≤ l.length ∧ i = .int .i64 j ∧ Below W4.heap.size W4 wr) (fun i _ => l.length - (intOf i).toNat)
    case atStart => exact ⟨0, by omega, by go_num, Below.refl _ _⟩
    case round =>
      obtain ⟨j, hj, rfl, hBr⟩ := hrel
      have HBr := Lib.hid hBr
      clear hBr
      have i1 : (0 : Int) ≤ (j : Int) := by omega
      by_cases hjl : j < l.length
      · have i2 : (j : Int) < (l.length : Int) := by omega
        have w1 : IntKind.i64.wrap ((j : Int) - 1) = (j : Int) - 1 := IntWalk.i64_in _ (by omega)
        obtain ⟨bl, ol, rfl, hbl, hI⟩ := HLR.out (by intro e; rw [e] at hjl; simp at hjl)
        obtain ⟨p0, p1, p2, p3, s0, s1, s2, s3, hP⟩ := hI.at j hjl
        have HP := Lib.hid ((hP.below HBr.out).mono HBr.out.size)
        have G0 := Lib.hid (fun (wx : World) (hx : Below wr.heap.size wr wx) => show wx.cell? ⟨bl, ol + j * 4, none⟩ = some p0 ∧ wx.cell? ⟨bl, ol + j * 4 + 1, none⟩ = some p1 ∧ wx.cell? ⟨bl, ol + j * 4 + 2, none⟩ = some p2 ∧ wx.cell? ⟨bl, ol + j * 4 + 3, none⟩ = some p3 from
          have h := HBr.out.trans (hx.mono HBr.out.size)
          ⟨(h.cell (p := ⟨bl, ol + j * 4, none⟩) hbl).trans s0, (h.cell (p := ⟨bl, ol + j * 4 + 1, none⟩) hbl).trans s1, (h.cell (p := ⟨bl, ol + j * 4 + 2, none⟩) hbl).trans s2, (h.cell (p := ⟨bl, ol + j * 4 + 3, none⟩) hbl).trans s3⟩)
        have EV1 := Lib.hid (show Evr wr 18 #[.agg #[p0, p1, p2, p3]] (.bool true) from (HVL.out l[j] (List.getElem_mem hjl)) ▸ value_evr HP.out (by have := value_depth (HVL.out l[j] (List.getElem_mem hjl)); omega))
        obtain ⟨q0, q1, q2, q3, CJ, HQx⟩ : ∃ (q0 q1 q2 q3 : Value) (CJ : Int), 0 < j → (∀ wz, Below wr.heap.size wr wz → wz.cell? ⟨bl, ol + (j - 1) * 4, none⟩ = some q0 ∧ wz.cell? ⟨bl, ol + (j - 1) * 4 + 1, none⟩ = some q1 ∧ wz.cell? ⟨bl, ol + (j - 1) * 4 + 2, none⟩ = some q2 ∧ wz.cell? ⟨bl, ol + (j - 1) * 4 + 3, none⟩ = some q3) ∧ Evr wr 19 #[.agg #[q0, q1, q2, q3], .agg #[p0, p1, p2, p3]] (.int .i64 CJ) ∧ CJ = -1 := by
          by_cases hj0 : 0 < j
          · have hj1 : j - 1 < l.length := by omega
            obtain ⟨q0, q1, q2, q3, t0, t1, t2, t3, hQ⟩ := hI.at (j - 1) hj1
            refine ⟨q0, q1, q2, q3, Tm.cmp l[j - 1] l[j], fun _ => ⟨fun wz hz => ?_, compare_evr ((hQ.below HBr.out).mono HBr.out.size) HP.out, ?_⟩⟩
            · have h := HBr.out.trans (hz.mono HBr.out.size)
              exact ⟨(h.cell (p := ⟨bl, ol + (j - 1) * 4, none⟩) hbl).trans t0, (h.cell (p := ⟨bl, ol + (j - 1) * 4 + 1, none⟩) hbl).trans t1, (h.cell (p := ⟨bl, ol + (j - 1) * 4 + 2, none⟩) hbl).trans t2, (h.cell (p := ⟨bl, ol + (j - 1) * 4 + 3, none⟩) hbl).trans t3⟩
            · exact List.pairwise_iff_getElem.1 HSO.out (j - 1) j hj1 hjl (by omega)
          · exact ⟨undef, undef, undef, undef, 0, fun h => absurd h hj0⟩
        have HQ := Lib.hid HQx
        clear HQx hI s0 s1 s2 s3 hP
        go_wp2_with fail
        obtain ⟨B54, hB54⟩ : ∃ x : Bool, (decide ((((j : Int) : Int)) > (0))) = x := ⟨_, rfl⟩
        obtain ⟨B66, hB66⟩ : ∃ x : Bool, (((CJ : Int)) != (-1)) = x := ⟨_, rfl⟩
        have HM := Lib.hid (show ((!(true) || (B54 && B66))) = false by
          by_cases hj0 : 0 < j
          · have h1 : B66 = false := by rw [← hB66, (HQ.out hj0).2.2]; rfl
            rw [h1]; simp
          · have h1 : B54 = false := by
              rw [← hB54, decide_eq_false_iff_not]
              omega
            rw [h1]; simp)
        refine wp_region_grow_or (by kernel_rfl) (FU (bzDescs10 l bl ol lc j p0 p1 p2 p3 q0 q1 q2 q3 CJ B54 B66)) (FU_grow _) (by kernel_rfl) (steps_or ?_) ?_
        · refine ⟨?_, ?_, ?_, ?_, ?_, ?_, ?_, ?_, ?_, ?_, ?_, ?_, ?_, ?_, ?_, ?_, ?_, ?_, ?_, ?_, ?_, ?_, ?_, trivial⟩
          · intro ac wz hb hd hs ho hp
            refine Or.inl ⟨rfl, ?_⟩
            have h3 : ac.tmps.getD 3 undef = .slice (some ⟨bl, ol, none⟩) l.length lc := (ho 3 (by kernel_rfl)).trans rfl
            unfold Oper.wp
            go_simp
            exact Stepped.at rfl hd (Below.refl _ _) (FU_mk (.val (.slice (some ⟨bl, ol, none⟩) l.length lc)) rfl (by show (_ : Value) = _; first | rfl | (first | rfl | simp) | (simp [*])))
          · intro ac wz hb hd hs ho hp
            refine Or.inl ⟨rfl, ?_⟩
            have h7 : ac.tmps.getD 7 undef = .int .i64 ((j : Int)) := (ho 7 (by kernel_rfl)).trans rfl
            unfold Oper.wp
            go_simp
            exact Stepped.at rfl hd (Below.refl _ _) (FU_mk (.val (.int .i64 ((j : Int)))) rfl (by show (_ : Value) = _; first | rfl | (first | rfl | simp) | (simp [*])))
          · intro ac wz hb hd hs ho hp
            refine Or.inl ⟨rfl, ?_⟩
            have h46 : ac.tmps.getD 46 undef = .slice (some ⟨bl, ol, none⟩) l.length lc := uval_at hp 0 46 (by kernel_rfl) rfl
            have h47 : ac.tmps.getD 47 undef = .int .i64 ((j : Int)) := uval_at hp 1 47 (by kernel_rfl) rfl
            unfold Oper.wp
            go_simp
            exact Stepped.at rfl hd (Below.refl _ _) (FU_mk (.val (.pointer (some ⟨bl, ol + j * 4, none⟩))) rfl (by show (_ : Value) = _; first | rfl | (first | rfl | simp) | (simp [*])))
          · intro ac wz hb hd hs ho hp
            refine Or.inl ⟨rfl, ?_⟩
            have h48 : ac.tmps.getD 48 undef = .pointer (some ⟨bl, ol + j * 4, none⟩) := uval_at hp 2 48 (by kernel_rfl) rfl
            obtain ⟨x0, x1, x2, x3⟩ := G0.out wz hb
            unfold Oper.wp
            go_simp
            exact Stepped.at rfl hd (Below.refl _ _) (FU_mk (.val (.agg #[p0, p1, p2, p3])) rfl (by show (_ : Value) = _; first | rfl | (first | rfl | simp) | (simp [*])))
          · intro ac wz hb hd hs ho hp
            refine Or.inl ⟨rfl, ?_⟩
            have h49 : ac.tmps.getD 49 undef = .agg #[p0, p1, p2, p3] := uval_at hp 3 49 (by kernel_rfl) rfl
            unfold Oper.wp
            go_simp
            refine (EV1.out _ hb).mono ?_
            rintro e2 w2 ⟨rfl, hb2⟩
            exact Stepped.at rfl hd (hb2) (FU_mk (.val (.bool (true))) rfl (by show (_ : Value) = _; first | rfl | simp))
          · intro ac wz hb hd hs ho hp
            refine Or.inl ⟨rfl, ?_⟩
            have h50 : ac.tmps.getD 50 undef = .bool (true) := uval_at hp 4 50 (by kernel_rfl) rfl
            unfold Oper.wp
            go_simp
            exact Stepped.at rfl hd (Below.refl _ _) (FU_mk (.val (.bool (!(true)))) rfl (by show (_ : Value) = _; first | rfl | (first | rfl | simp) | (simp [*])))
          · intro ac wz hb hd hs ho hp
            refine Or.inl ⟨rfl, ?_⟩
            have h51 : ac.tmps.getD 51 undef = .bool (!(true)) := uval_at hp 5 51 (by kernel_rfl) rfl
            unfold Oper.wp
            go_simp
            exact Stepped.at rfl hd (Below.refl _ _) (FU_mk (.val (.bool (!(true)))) rfl (by show (_ : Value) = _; first | rfl | (first | rfl | simp) | (simp [*])))
          · intro ac wz hb hd hs ho hp
            have hg : ac.tmps.getD 52 undef = cond (true) (.bool (!(true))) undef := uval_at hp 6 52 (by kernel_rfl) rfl
            rcases Bool.eq_false_or_eq_true (gon (true) (!(true)) false) with hc | hc
            rotate_left
            · exact Or.inr ⟨(wanted_gon (k := 6) (d := 52) rfl (by kernel_rfl) hg).trans hc, fun d hd => FU_mk (.val _) rfl (by rw [hc]; rfl)⟩
            refine Or.inl ⟨(wanted_gon (k := 6) (d := 52) rfl (by kernel_rfl) hg).trans hc, ?_⟩
            have HC := Lib.hid hc
            clear hg hc
            have h7 : ac.tmps.getD 7 undef = .int .i64 ((j : Int)) := (ho 7 (by kernel_rfl)).trans rfl
            unfold Oper.wp
            go_simp
            exact Stepped.at rfl hd (Below.refl _ _) (FU_mk (.val (cond (gon (true) (!(true)) false) (.int .i64 ((j : Int))) undef)) rfl (by show (_ : Value) = _; first | rfl | (rw [HC.out]; first | rfl | simp) | (rw [HC.out]; simp [*])))
          · intro ac wz hb hd hs ho hp
            have hg : ac.tmps.getD 52 undef = cond (true) (.bool (!(true))) undef := uval_at hp 6 52 (by kernel_rfl) rfl
            rcases Bool.eq_false_or_eq_true (gon (true) (!(true)) false) with hc | hc
            rotate_left
            · exact Or.inr ⟨(wanted_gon (k := 6) (d := 52) rfl (by kernel_rfl) hg).trans hc, fun d hd => FU_mk (.val _) rfl (by rw [hc]; rfl)⟩
            refine Or.inl ⟨(wanted_gon (k := 6) (d := 52) rfl (by kernel_rfl) hg).trans hc, ?_⟩
            have HC := Lib.hid hc
            clear hg hc
            have h53 : ac.tmps.getD 53 undef = cond (gon (true) (!(true)) false) (.int .i64 ((j : Int))) undef := uval_at hp 7 53 (by kernel_rfl) rfl
            rw [HC.out, cond_true] at h53
            unfold Oper.wp
            go_simp
            exact Stepped.at rfl hd (Below.refl _ _) (FU_mk (.val (cond (gon (true) (!(true)) false) (.bool (B54)) undef)) rfl (by show (_ : Value) = _; first | rfl | (rw [HC.out]; rw [← hB54]; first | rfl | simp) | (rw [HC.out]; simp [*])))
          · intro ac wz hb hd hs ho hp
            have hg : ac.tmps.getD 52 undef = cond (true) (.bool (!(true))) undef := uval_at hp 6 52 (by kernel_rfl) rfl
            rcases Bool.eq_false_or_eq_true (gon (true) (!(true)) false) with hc | hc
            rotate_left
            · exact Or.inr ⟨(wanted_gon (k := 6) (d := 52) rfl (by kernel_rfl) hg).trans hc, fun d hd => FU_mk (.val _) rfl (by rw [hc]; rfl)⟩
            refine Or.inl ⟨(wanted_gon (k := 6) (d := 52) rfl (by kernel_rfl) hg).trans hc, ?_⟩
            have HC := Lib.hid hc
            clear hg hc
            have h54 : ac.tmps.getD 54 undef = cond (gon (true) (!(true)) false) (.bool (B54)) undef := uval_at hp 8 54 (by kernel_rfl) rfl
            rw [HC.out, cond_true] at h54
            unfold Oper.wp
            go_simp
            exact Stepped.at rfl hd (Below.refl _ _) (FU_mk (.val (cond (gon (true) (!(true)) false) (.bool (B54)) undef)) rfl (by show (_ : Value) = _; first | rfl | (rw [HC.out]; first | rfl | simp) | (rw [HC.out]; simp [*])))
          · intro ac wz hb hd hs ho hp
            have hg : ac.tmps.getD 55 undef = cond (gon (true) (!(true)) false) (.bool (B54)) undef := uval_at hp 9 55 (by kernel_rfl) rfl
            rcases Bool.eq_false_or_eq_true (gon (gon (true) (!(true)) false) (B54) true) with hc | hc
            rotate_left
            · exact Or.inr ⟨(wanted_gon (k := 9) (d := 55) rfl (by kernel_rfl) hg).trans hc, fun d hd => FU_mk (.val _) rfl (by rw [hc]; rfl)⟩
            refine Or.inl ⟨(wanted_gon (k := 9) (d := 55) rfl (by kernel_rfl) hg).trans hc, ?_⟩
            have HC := Lib.hid hc
            clear hg hc
            have h3 : ac.tmps.getD 3 undef = .slice (some ⟨bl, ol, none⟩) l.length lc := (ho 3 (by kernel_rfl)).trans rfl
            unfold Oper.wp
            go_simp
            exact Stepped.at rfl hd (Below.refl _ _) (FU_mk (.val (cond (gon (gon (true) (!(true)) false) (B54) true) (.slice (some ⟨bl, ol, none⟩) l.length lc) undef)) rfl (by show (_ : Value) = _; first | rfl | (rw [HC.out]; first | rfl | simp) | (rw [HC.out]; simp [*])))
          · intro ac wz hb hd hs ho hp
            have hg : ac.tmps.getD 55 undef = cond (gon (true) (!(true)) false) (.bool (B54)) undef := uval_at hp 9 55 (by kernel_rfl) rfl
            rcases Bool.eq_false_or_eq_true (gon (gon (true) (!(true)) false) (B54) true) with hc | hc
            rotate_left
            · exact Or.inr ⟨(wanted_gon (k := 9) (d := 55) rfl (by kernel_rfl) hg).trans hc, fun d hd => FU_mk (.val _) rfl (by rw [hc]; rfl)⟩
            refine Or.inl ⟨(wanted_gon (k := 9) (d := 55) rfl (by kernel_rfl) hg).trans hc, ?_⟩
            have HC := Lib.hid hc
            clear hg hc
            have h7 : ac.tmps.getD 7 undef = .int .i64 ((j : Int)) := (ho 7 (by kernel_rfl)).trans rfl
            unfold Oper.wp
            go_simp
            exact Stepped.at rfl hd (Below.refl _ _) (FU_mk (.val (cond (gon (gon (true) (!(true)) false) (B54) true) (.int .i64 ((j : Int))) undef)) rfl (by show (_ : Value) = _; first | rfl | (rw [HC.out]; first | rfl | simp) | (rw [HC.out]; simp [*])))
          · intro ac wz hb hd hs ho hp
            have hg : ac.tmps.getD 55 undef = cond (gon (true) (!(true)) false) (.bool (B54)) undef := uval_at hp 9 55 (by kernel_rfl) rfl
            rcases Bool.eq_false_or_eq_true (gon (gon (true) (!(true)) false) (B54) true) with hc | hc
            rotate_left
            · exact Or.inr ⟨(wanted_gon (k := 9) (d := 55) rfl (by kernel_rfl) hg).trans hc, fun d hd => FU_mk (.val _) rfl (by rw [hc]; rfl)⟩
            refine Or.inl ⟨(wanted_gon (k := 9) (d := 55) rfl (by kernel_rfl) hg).trans hc, ?_⟩
            have HC := Lib.hid hc
            clear hg hc
            have h57 : ac.tmps.getD 57 undef = cond (gon (gon (true) (!(true)) false) (B54) true) (.int .i64 ((j : Int))) undef := uval_at hp 11 57 (by kernel_rfl) rfl
            rw [HC.out, cond_true] at h57
            unfold Oper.wp
            go_simp
            exact Stepped.at rfl hd (Below.refl _ _) (FU_mk (.val (cond (gon (gon (true) (!(true)) false) (B54) true) (.int .i64 ((j : Int) - 1)) undef)) rfl (by show (_ : Value) = _; first | rfl | (rw [HC.out]; first | rfl | simp) | (rw [HC.out]; simp [*])))
          · intro ac wz hb hd hs ho hp
            have hg : ac.tmps.getD 55 undef = cond (gon (true) (!(true)) false) (.bool (B54)) undef := uval_at hp 9 55 (by kernel_rfl) rfl
            rcases Bool.eq_false_or_eq_true (gon (gon (true) (!(true)) false) (B54) true) with hc | hc
            rotate_left
            · exact Or.inr ⟨(wanted_gon (k := 9) (d := 55) rfl (by kernel_rfl) hg).trans hc, fun d hd => FU_mk (.val _) rfl (by rw [hc]; rfl)⟩
            refine Or.inl ⟨(wanted_gon (k := 9) (d := 55) rfl (by kernel_rfl) hg).trans hc, ?_⟩
            have HC := Lib.hid hc
            clear hg hc
            have h56 : ac.tmps.getD 56 undef = cond (gon (gon (true) (!(true)) false) (B54) true) (.slice (some ⟨bl, ol, none⟩) l.length lc) undef := uval_at hp 10 56 (by kernel_rfl) rfl
            rw [HC.out, cond_true] at h56
            have h58 : ac.tmps.getD 58 undef = cond (gon (gon (true) (!(true)) false) (B54) true) (.int .i64 ((j : Int) - 1)) undef := uval_at hp 12 58 (by kernel_rfl) rfl
            rw [HC.out, cond_true] at h58
            have hj0 : 0 < j := by have := gon_r HC.out; rw [← hB54] at this; have := of_decide_eq_true this; omega
            have hcs := (HQ.out hj0).1
            have HCM := Lib.hid (HQ.out hj0).2.1
            have i5 : (1 : Int) ≤ (j : Int) := by omega
            have i6 : (j : Int) - 1 < (l.length : Int) := by omega
            have i7 : ((j : Int) - 1).toNat = j - 1 := by omega
            unfold Oper.wp
            go_simp
            exact Stepped.at rfl hd (Below.refl _ _) (FU_mk (.val (cond (gon (gon (true) (!(true)) false) (B54) true) (.pointer (some ⟨bl, ol + (j - 1) * 4, none⟩)) undef)) rfl (by show (_ : Value) = _; first | rfl | (rw [HC.out]; first | rfl | simp) | (rw [HC.out]; simp [*])))
          · intro ac wz hb hd hs ho hp
            have hg : ac.tmps.getD 55 undef = cond (gon (true) (!(true)) false) (.bool (B54)) undef := uval_at hp 9 55 (by kernel_rfl) rfl
            rcases Bool.eq_false_or_eq_true (gon (gon (true) (!(true)) false) (B54) true) with hc | hc
            rotate_left
            · exact Or.inr ⟨(wanted_gon (k := 9) (d := 55) rfl (by kernel_rfl) hg).trans hc, fun d hd => FU_mk (.val _) rfl (by rw [hc]; rfl)⟩
            refine Or.inl ⟨(wanted_gon (k := 9) (d := 55) rfl (by kernel_rfl) hg).trans hc, ?_⟩
            have HC := Lib.hid hc
            clear hg hc
            have h59 : ac.tmps.getD 59 undef = cond (gon (gon (true) (!(true)) false) (B54) true) (.pointer (some ⟨bl, ol + (j - 1) * 4, none⟩)) undef := uval_at hp 13 59 (by kernel_rfl) rfl
            rw [HC.out, cond_true] at h59
            have hj0 : 0 < j := by have := gon_r HC.out; rw [← hB54] at this; have := of_decide_eq_true this; omega
            have hcs := (HQ.out hj0).1
            have HCM := Lib.hid (HQ.out hj0).2.1
            obtain ⟨x0, x1, x2, x3⟩ := hcs wz hb
            unfold Oper.wp
            go_simp
            exact Stepped.at rfl hd (Below.refl _ _) (FU_mk (.val (cond (gon (gon (true) (!(true)) false) (B54) true) (.agg #[q0, q1, q2, q3]) undef)) rfl (by show (_ : Value) = _; first | rfl | (rw [HC.out]; first | rfl | simp) | (rw [HC.out]; simp [*])))
          · intro ac wz hb hd hs ho hp
            have hg : ac.tmps.getD 55 undef = cond (gon (true) (!(true)) false) (.bool (B54)) undef := uval_at hp 9 55 (by kernel_rfl) rfl
            rcases Bool.eq_false_or_eq_true (gon (gon (true) (!(true)) false) (B54) true) with hc | hc
            rotate_left
            · exact Or.inr ⟨(wanted_gon (k := 9) (d := 55) rfl (by kernel_rfl) hg).trans hc, fun d hd => FU_mk (.val _) rfl (by rw [hc]; rfl)⟩
            refine Or.inl ⟨(wanted_gon (k := 9) (d := 55) rfl (by kernel_rfl) hg).trans hc, ?_⟩
            have HC := Lib.hid hc
            clear hg hc
            have h3 : ac.tmps.getD 3 undef = .slice (some ⟨bl, ol, none⟩) l.length lc := (ho 3 (by kernel_rfl)).trans rfl
            unfold Oper.wp
            go_simp
            exact Stepped.at rfl hd (Below.refl _ _) (FU_mk (.val (cond (gon (gon (true) (!(true)) false) (B54) true) (.slice (some ⟨bl, ol, none⟩) l.length lc) undef)) rfl (by show (_ : Value) = _; first | rfl | (rw [HC.out]; first | rfl | simp) | (rw [HC.out]; simp [*])))
          · intro ac wz hb hd hs ho hp
            have hg : ac.tmps.getD 55 undef = cond (gon (true) (!(true)) false) (.bool (B54)) undef := uval_at hp 9 55 (by kernel_rfl) rfl
            rcases Bool.eq_false_or_eq_true (gon (gon (true) (!(true)) false) (B54) true) with hc | hc
            rotate_left
            · exact Or.inr ⟨(wanted_gon (k := 9) (d := 55) rfl (by kernel_rfl) hg).trans hc, fun d hd => FU_mk (.val _) rfl (by rw [hc]; rfl)⟩
            refine Or.inl ⟨(wanted_gon (k := 9) (d := 55) rfl (by kernel_rfl) hg).trans hc, ?_⟩
            have HC := Lib.hid hc
            clear hg hc
            have h7 : ac.tmps.getD 7 undef = .int .i64 ((j : Int)) := (ho 7 (by kernel_rfl)).trans rfl
            unfold Oper.wp
            go_simp
            exact Stepped.at rfl hd (Below.refl _ _) (FU_mk (.val (cond (gon (gon (true) (!(true)) false) (B54) true) (.int .i64 ((j : Int))) undef)) rfl (by show (_ : Value) = _; first | rfl | (rw [HC.out]; first | rfl | simp) | (rw [HC.out]; simp [*])))
          · intro ac wz hb hd hs ho hp
            have hg : ac.tmps.getD 55 undef = cond (gon (true) (!(true)) false) (.bool (B54)) undef := uval_at hp 9 55 (by kernel_rfl) rfl
            rcases Bool.eq_false_or_eq_true (gon (gon (true) (!(true)) false) (B54) true) with hc | hc
            rotate_left
            · exact Or.inr ⟨(wanted_gon (k := 9) (d := 55) rfl (by kernel_rfl) hg).trans hc, fun d hd => FU_mk (.val _) rfl (by rw [hc]; rfl)⟩
            refine Or.inl ⟨(wanted_gon (k := 9) (d := 55) rfl (by kernel_rfl) hg).trans hc, ?_⟩
            have HC := Lib.hid hc
            clear hg hc
            have h61 : ac.tmps.getD 61 undef = cond (gon (gon (true) (!(true)) false) (B54) true) (.slice (some ⟨bl, ol, none⟩) l.length lc) undef := uval_at hp 15 61 (by kernel_rfl) rfl
            rw [HC.out, cond_true] at h61
            have h62 : ac.tmps.getD 62 undef = cond (gon (gon (true) (!(true)) false) (B54) true) (.int .i64 ((j : Int))) undef := uval_at hp 16 62 (by kernel_rfl) rfl
            rw [HC.out, cond_true] at h62
            unfold Oper.wp
            go_simp
            exact Stepped.at rfl hd (Below.refl _ _) (FU_mk (.val (cond (gon (gon (true) (!(true)) false) (B54) true) (.pointer (some ⟨bl, ol + j * 4, none⟩)) undef)) rfl (by show (_ : Value) = _; first | rfl | (rw [HC.out]; first | rfl | simp) | (rw [HC.out]; simp [*])))
          · intro ac wz hb hd hs ho hp
            have hg : ac.tmps.getD 55 undef = cond (gon (true) (!(true)) false) (.bool (B54)) undef := uval_at hp 9 55 (by kernel_rfl) rfl
            rcases Bool.eq_false_or_eq_true (gon (gon (true) (!(true)) false) (B54) true) with hc | hc
            rotate_left
            · exact Or.inr ⟨(wanted_gon (k := 9) (d := 55) rfl (by kernel_rfl) hg).trans hc, fun d hd => FU_mk (.val _) rfl (by rw [hc]; rfl)⟩
            refine Or.inl ⟨(wanted_gon (k := 9) (d := 55) rfl (by kernel_rfl) hg).trans hc, ?_⟩
            have HC := Lib.hid hc
            clear hg hc
            have h63 : ac.tmps.getD 63 undef = cond (gon (gon (true) (!(true)) false) (B54) true) (.pointer (some ⟨bl, ol + j * 4, none⟩)) undef := uval_at hp 17 63 (by kernel_rfl) rfl
            rw [HC.out, cond_true] at h63
            obtain ⟨x0, x1, x2, x3⟩ := G0.out wz hb
            unfold Oper.wp
            go_simp
            exact Stepped.at rfl hd (Below.refl _ _) (FU_mk (.val (cond (gon (gon (true) (!(true)) false) (B54) true) (.agg #[p0, p1, p2, p3]) undef)) rfl (by show (_ : Value) = _; first | rfl | (rw [HC.out]; first | rfl | simp) | (rw [HC.out]; simp [*])))
          · intro ac wz hb hd hs ho hp
            have hg : ac.tmps.getD 55 undef = cond (gon (true) (!(true)) false) (.bool (B54)) undef := uval_at hp 9 55 (by kernel_rfl) rfl
            rcases Bool.eq_false_or_eq_true (gon (gon (true) (!(true)) false) (B54) true) with hc | hc
            rotate_left
            · exact Or.inr ⟨(wanted_gon (k := 9) (d := 55) rfl (by kernel_rfl) hg).trans hc, fun d hd => FU_mk (.val _) rfl (by rw [hc]; rfl)⟩
            refine Or.inl ⟨(wanted_gon (k := 9) (d := 55) rfl (by kernel_rfl) hg).trans hc, ?_⟩
            have HC := Lib.hid hc
            clear hg hc
            have h60 : ac.tmps.getD 60 undef = cond (gon (gon (true) (!(true)) false) (B54) true) (.agg #[q0, q1, q2, q3]) undef := uval_at hp 14 60 (by kernel_rfl) rfl
            rw [HC.out, cond_true] at h60
            have h64 : ac.tmps.getD 64 undef = cond (gon (gon (true) (!(true)) false) (B54) true) (.agg #[p0, p1, p2, p3]) undef := uval_at hp 18 64 (by kernel_rfl) rfl
            rw [HC.out, cond_true] at h64
            have hj0 : 0 < j := by have := gon_r HC.out; rw [← hB54] at this; have := of_decide_eq_true this; omega
            have hcs := (HQ.out hj0).1
            have HCM := Lib.hid (HQ.out hj0).2.1
            unfold Oper.wp
            go_simp
            refine (HCM.out _ hb).mono ?_
            rintro e2 w2 ⟨rfl, hb2⟩
            exact Stepped.at rfl hd (hb2) (FU_mk (.val (cond (gon (gon (true) (!(true)) false) (B54) true) (.int .i64 (CJ)) undef)) rfl (by show (_ : Value) = _; rw [HC.out]; first | rfl | simp))
          · intro ac wz hb hd hs ho hp
            have hg : ac.tmps.getD 55 undef = cond (gon (true) (!(true)) false) (.bool (B54)) undef := uval_at hp 9 55 (by kernel_rfl) rfl
            rcases Bool.eq_false_or_eq_true (gon (gon (true) (!(true)) false) (B54) true) with hc | hc
            rotate_left
            · exact Or.inr ⟨(wanted_gon (k := 9) (d := 55) rfl (by kernel_rfl) hg).trans hc, fun d hd => FU_mk (.val _) rfl (by rw [hc]; rfl)⟩
            refine Or.inl ⟨(wanted_gon (k := 9) (d := 55) rfl (by kernel_rfl) hg).trans hc, ?_⟩
            have HC := Lib.hid hc
            clear hg hc
            have h65 : ac.tmps.getD 65 undef = cond (gon (gon (true) (!(true)) false) (B54) true) (.int .i64 (CJ)) undef := uval_at hp 19 65 (by kernel_rfl) rfl
            rw [HC.out, cond_true] at h65
            unfold Oper.wp
            go_simp
            exact Stepped.at rfl hd (Below.refl _ _) (FU_mk (.val (cond (gon (gon (true) (!(true)) false) (B54) true) (.bool (B66)) undef)) rfl (by show (_ : Value) = _; first | rfl | (rw [HC.out]; rw [← hB66]; first | rfl | simp) | (rw [HC.out]; simp [*])))
          · intro ac wz hb hd hs ho hp
            have hg : ac.tmps.getD 52 undef = cond (true) (.bool (!(true))) undef := uval_at hp 6 52 (by kernel_rfl) rfl
            rcases Bool.eq_false_or_eq_true (gon (true) (!(true)) false) with hc | hc
            rotate_left
            · exact Or.inr ⟨(wanted_gon (k := 6) (d := 52) rfl (by kernel_rfl) hg).trans hc, fun d hd => FU_mk (.val _) rfl (by rw [hc]; rfl)⟩
            refine Or.inl ⟨(wanted_gon (k := 6) (d := 52) rfl (by kernel_rfl) hg).trans hc, ?_⟩
            have HC := Lib.hid hc
            clear hg hc
            have h55 : ac.tmps.getD 55 undef = cond (gon (true) (!(true)) false) (.bool (B54)) undef := uval_at hp 9 55 (by kernel_rfl) rfl
            rw [HC.out, cond_true] at h55
            rcases Bool.eq_false_or_eq_true (B54) with e | e
            · rw [e] at h55
              have E := Lib.hid e
              clear e
              have h66 : ac.tmps.getD 66 undef = cond (gon (gon (true) (!(true)) false) (B54) true) (.bool (B66)) undef := uval_at hp 20 66 (by kernel_rfl) rfl
              rw [gon_mk HC.out E.out, cond_true] at h66
              unfold Oper.wp
              go_simp
              exact Stepped.at rfl hd (Below.refl _ _) (FU_mk (.val (cond (gon (true) (!(true)) false) (.bool ((B54 && B66))) undef)) rfl (by show (_ : Value) = _; rw [HC.out, cond_true]; first | (simp only [E.out, Bool.true_and]; done) | simp [E.out]))
            · rw [e] at h55
              have E := Lib.hid e
              clear e
              unfold Oper.wp
              go_simp
              exact Stepped.at rfl hd (Below.refl _ _) (FU_mk (.val (cond (gon (true) (!(true)) false) (.bool ((B54 && B66))) undef)) rfl (by show (_ : Value) = _; rw [HC.out, cond_true]; first | (simp only [E.out, Bool.false_and]; done) | simp [E.out]))
          · intro ac wz hb hd hs ho hp
            refine Or.inl ⟨rfl, ?_⟩
            have h52 : ac.tmps.getD 52 undef = .bool (!(true)) := uval_at hp 6 52 (by kernel_rfl) rfl
            rcases Bool.eq_false_or_eq_true (!(true)) with e | e
            · rw [e] at h52
              have E := Lib.hid e
              clear e
              unfold Oper.wp
              go_simp
              exact Stepped.at rfl hd (Below.refl _ _) (FU_mk (.val (.bool ((!(true) || (B54 && B66))))) rfl (by show (_ : Value) = _; first | (simp only [E.out, Bool.true_or]; done) | simp [E.out]))
            · rw [e] at h52
              have E := Lib.hid e
              clear e
              have h67 : ac.tmps.getD 67 undef = cond (gon (true) (!(true)) false) (.bool ((B54 && B66))) undef := uval_at hp 21 67 (by kernel_rfl) rfl
              rw [gon_mk rfl E.out, cond_true] at h67
              unfold Oper.wp
              go_simp
              exact Stepped.at rfl hd (Below.refl _ _) (FU_mk (.val (.bool ((!(true) || (B54 && B66))))) rfl (by show (_ : Value) = _; first | (simp only [E.out, Bool.false_or]; done) | simp [E.out]))
        intro ac V3 hJ
        have f68 : ac.tmps.getD 68 undef = .bool ((!(true) || (B54 && B66))) := FU_at (.val (.bool ((!(true) || (B54 && B66))))) rfl (hJ.at_end 22 68 (by kernel_rfl))
        have e68 : ((!(true) || (B54 && B66))) = false := HM.out
        rw [e68] at f68
        clear e68
        obtain ⟨u46, f46⟩ : ∃ u, ac.tmps.getD 46 undef = u := ⟨_, rfl⟩
        obtain ⟨u47, f47⟩ : ∃ u, ac.tmps.getD 47 undef = u := ⟨_, rfl⟩
        obtain ⟨u48, f48⟩ : ∃ u, ac.tmps.getD 48 undef = u := ⟨_, rfl⟩
        obtain ⟨u49, f49⟩ : ∃ u, ac.tmps.getD 49 undef = u := ⟨_, rfl⟩
        obtain ⟨u50, f50⟩ : ∃ u, ac.tmps.getD 50 undef = u := ⟨_, rfl⟩
        obtain ⟨u51, f51⟩ : ∃ u, ac.tmps.getD 51 undef = u := ⟨_, rfl⟩
        obtain ⟨u52, f52⟩ : ∃ u, ac.tmps.getD 52 undef = u := ⟨_, rfl⟩
        obtain ⟨u53, f53⟩ : ∃ u, ac.tmps.getD 53 undef = u := ⟨_, rfl⟩
        obtain ⟨u54, f54⟩ : ∃ u, ac.tmps.getD 54 undef = u := ⟨_, rfl⟩
        obtain ⟨u55, f55⟩ : ∃ u, ac.tmps.getD 55 undef = u := ⟨_, rfl⟩
        obtain ⟨u56, f56⟩ : ∃ u, ac.tmps.getD 56 undef = u := ⟨_, rfl⟩
        obtain ⟨u57, f57⟩ : ∃ u, ac.tmps.getD 57 undef = u := ⟨_, rfl⟩
        obtain ⟨u58, f58⟩ : ∃ u, ac.tmps.getD 58 undef = u := ⟨_, rfl⟩
        obtain ⟨u59, f59⟩ : ∃ u, ac.tmps.getD 59 undef = u := ⟨_, rfl⟩
        obtain ⟨u60, f60⟩ : ∃ u, ac.tmps.getD 60 undef = u := ⟨_, rfl⟩
        obtain ⟨u61, f61⟩ : ∃ u, ac.tmps.getD 61 undef = u := ⟨_, rfl⟩
        obtain ⟨u62, f62⟩ : ∃ u, ac.tmps.getD 62 undef = u := ⟨_, rfl⟩
        obtain ⟨u63, f63⟩ : ∃ u, ac.tmps.getD 63 undef = u := ⟨_, rfl⟩
        obtain ⟨u64, f64⟩ : ∃ u, ac.tmps.getD 64 undef = u := ⟨_, rfl⟩
        obtain ⟨u65, f65⟩ : ∃ u, ac.tmps.getD 65 undef = u := ⟨_, rfl⟩
        obtain ⟨u66, f66⟩ : ∃ u, ac.tmps.getD 66 undef = u := ⟨_, rfl⟩
        obtain ⟨u67, f67⟩ : ∃ u, ac.tmps.getD 67 undef = u := ⟨_, rfl⟩
        have b := hJ.below
        obtain ⟨TT, DD⟩ := ac
        obtain rfl : DD = [] := hJ.defers
        have hE := slots_merge [false, false, false, false, false, false, false, false, false, false, false, false, false, false, false, false, false, false, false, false, false, false, false, false, false, false, false, false, false, false, false, false, false, false, false, false, false, false, false, false, false, false, false, false, false, false, true, true, true, true, true, true, true, true, true, true, true, true, true, true, true, true, true, true, true, true, true, true, true, false, false, false, false, false, false, false, false, false, false, false, false, false, false, false, false, false, false, false, false, false, false, false, false, false, false, false, false, false, false, false, false, false, false, false, false, false, false, false, false, false, false, false, false, false, false, false, false, false, false, false, false, false, false, false, false, false, false, false, false, false, false, false, false, false, false, false, false] 137 hJ.tmps rfl (by kernel_rfl) hJ.outer
        simp only [mergeFrom, Nat.zero_add, Nat.reduceAdd, f46, f47, f48, f49, f50, f51, f52, f53, f54, f55, f56, f57, f58, f59, f60, f61, f62, f63, f64, f65, f66, f67, f68] at hE
        clear hJ f46 f47 f48 f49 f50 f51 f52 f53 f54 f55 f56 f57 f58 f59 f60 f61 f62 f63 f64 f65 f66 f67 f68 hB54 hB66
        subst hE
        have HBn := Lib.hid (HBr.out.trans (b.mono HBr.out.size))
        clear b HM G0 HQ EV1 HP
        go_wp2
        go_roundw
        case rel => exact ⟨j + 1, by omega, by go_num, HBn.out⟩
        case measure => simp [intOf]; omega
      · have i2 : ¬ (j : Int) < (l.length : Int) := by omega
        have BW2 := Lib.hid (BW.out.trans (HBr.out.mono BW.out.size))
        cases pb with
        | false =>
          go_wp2
          go_ret
          exact ⟨rfl, by first | exact BW2.out | (rw [← hn1]; exact BW2.out)⟩
        | true =>
          obtain ⟨WM, hWM⟩ : ∃ x, x = wr := ⟨_, rfl⟩
          subst hWM
          obtain ⟨all, hpm, hpr⟩ := HPP.out rfl
          obtain ⟨pa, pc, rfl, _, hpr2⟩ := hpr
          have hpl := plainM_len hpm
          have hmet := plain_met HVB.out HGB.out HE.out hpm
          have HM1 := Lib.hid hmet.1
          have HM2 := Lib.hid hmet.2
          have HPR := Lib.hid hpr2
          have HOK := Lib.hid (exp_plain (Tm.mk k n s us) 0 l all HVB.out HGB.out HE.out hpm).1
          clear hmet hpr2 hpm HPP
          obtain ⟨i0, hi, hz0, hz1, hz2⟩ := info_parts info_int
          go_wp2_with (refine wpList_make_full _ rfl _ _ 22 rfl WM.heap.size 3 i0 _ 1 Tryz.underlying22 hi hz0 hz1 .i64 .i64 _ _ l.length rfl rfl rfl rfl ?c1 ?c2 (Nat.le_refl _) ?_)
          case c1 => first | omega | (rw [hz2]; omega)
          case c2 => unfold maxLen; omega
          intro W5 hown hg5
          have hmk : (madeCells (Value.int IntKind.i64 0).cells (l.length * 1)).toList = (List.replicate l.length (0 : Int)).map (Value.int .i64) := by
            rw [Nat.mul_one]
            refine List.ext_getElem (by rw [Array.length_toList, size_madeCells]; simp) ?_
            intro i h1 h2
            simp [madeCells, Value.cells, Nat.mod_one]
          have HO5 := Lib.hid (show W5.ownsRow WM.heap.size 3 1 (.slice (some ⟨WM.heap.size, 0, none⟩) l.length l.length) l.length ((List.replicate l.length (0 : Int)).map (Value.int .i64)) from by first | exact hmk ▸ hown | (rw [Nat.mul_one] at hmk; exact hmk ▸ hown))
          have HB5 := Lib.hid ((Below.refl _ WM).grown hg5 (Nat.le_refl _) (fun q e => by cases e))
          have HBA := Lib.hid (HBr.out.trans (HB5.out.mono HBr.out.size))
          obtain ⟨gm, hgm⟩ : ∃ g, WM.heap.size = g := ⟨_, rfl⟩
          have HGM := Lib.hid hgm
          rw [hgm] at HO5
          have hgl := hgm
          simp only [hgm]
          clear hown hg5 hmk hgm
          go_wp2_with fail
          have HW4 := Lib.hid HBr.out
          go_loopw [9] (fun i wr => ∃ (j2 : Nat) (ms : List Int), j2 ≤ all.length ∧ i = .int .i64 j2 ∧ ms.length = l.length ∧ (∀ z ∈ ms, 0 ≤ z ∧ z ≤ j2) ∧ (∀ q (h : q < l.length) (h' : q < ms.length), (∃ x ∈ all.take j2, evalT x = some l[q]) → 0 < ms[q]) ∧ wr.ownsRow gm 3 1 (.slice (some ⟨gm, 0, none⟩) l.length l.length) l.length (ms.map (Value.int .i64)) ∧ Below WM.heap.size WM wr) (fun i _ => all.length - (intOf i).toNat)
          case atStart => exact ⟨0, List.replicate l.length 0, by omega, by go_num, by simp, by simp, by simp, HO5.out, HB5.out⟩
          case round =>
            obtain ⟨j2, ms, hj2, rfl, hml, hmb, hmm, hO, hB⟩ := hrel
            have HMB := Lib.hid hmb
            have HMM := Lib.hid hmm
            have HOQ := Lib.hid hO
            have HBQ := Lib.hid hB
            have HB4 := Lib.hid (HBr.out.trans (hB.mono HBr.out.size))
            have HBF := Lib.hid (BW2.out.trans (hB.mono BW2.out.size))
            clear hmb hmm hO hB
            have k1 : (0 : Int) ≤ (j2 : Int) := by omega
            by_cases hjx : j2 < all.length
            case neg =>
              have k2 : ¬ (j2 : Int) < (all.length : Int) := by omega
              have hje : j2 = all.length := by omega
              have HPOS := Lib.hid (fun (q : Nat) (h : q < l.length) (h' : q < ms.length) => HMM.out q h h' (by rw [hje, List.take_length]; exact HM2.out l[q] (List.getElem_mem h)))
              go_wp2_with fail
              go_loop [14] (fun kk => ∃ q : Nat, q ≤ l.length ∧ kk = .int .i64 q) (fun kk => l.length - (intOf kk).toNat)
              case atStart => exact ⟨0, by omega, by go_num⟩
              case round =>
                obtain ⟨q, hq, rfl⟩ := hrel
                have m1 : (0 : Int) ≤ (q : Int) := by omega
                by_cases hql : q < l.length
                · have m2 : (q : Int) < (l.length : Int) := by omega
                  have hqm : q < ms.length := by omega
                  obtain ⟨zq, hzq⟩ : ∃ z, ms[q] = z := ⟨_, rfl⟩
                  have s0 : wr.cell? ⟨gm, q, none⟩ = some (.int .i64 zq) := by rw [HOQ.out.cellAt q (by omega)]; simp [hqm, hzq]
                  have hpos := HPOS.out q hql hqm
                  rw [hzq] at hpos
                  have s1 : (zq == 0) = false := by
                    have : zq ≠ 0 := by omega
                    simpa using this
                  have s2 : ¬ zq = 0 := by omega
                  clear hzq hpos
                  go_wp2
                  go_round
                  case rel => exact ⟨q + 1, by omega, by go_num⟩
                  case measure => simp [intOf]; omega
                · have m2 : ¬ (q : Int) < (l.length : Int) := by omega
                  go_wp2
                  go_ret
                  exact ⟨rfl, by first | exact HBF.out | (rw [← hn1]; exact HBF.out)⟩
            case pos =>
              have k2 : (j2 : Int) < (all.length : Int) := by omega
              obtain ⟨b5, o5, rfl, hb5, hI5⟩ := HPR.out (by intro e; rw [e] at hjx; simp at hjx)
              obtain ⟨c0, c1, c2, c3, t0, t1, t2, t3, hc⟩ := hI5.at j2 hjx
              have g0 := (HB4.out.cell (p := ⟨b5, o5 + j2 * 4, none⟩) hb5).trans t0
              have g1 := (HB4.out.cell (p := ⟨b5, o5 + j2 * 4 + 1, none⟩) hb5).trans t1
              have g2 := (HB4.out.cell (p := ⟨b5, o5 + j2 * 4 + 2, none⟩) hb5).trans t2
              have g3 := (HB4.out.cell (p := ⟨b5, o5 + j2 * 4 + 3, none⟩) hb5).trans t3
              have HCJ := Lib.hid ((hc.below HB4.out).mono HB4.out.size)
              have HDJ := Lib.hid (show all[j2].depth < 4611686018427387900 by have := node_depth all[j2] 1 (HOK.out _ (List.getElem_mem hjx)).1; omega)
              have HTK := Lib.hid (List.take_succ_eq_append_getElem hjx)
              clear t0 t1 t2 t3 hc hI5
              go_wp2_with (go_at_call 20; go_loud (refine (eval_any all[j2] c0 c1 c2 c3 wr HCJ.out HDJ.out).mono ?_))
              rintro e V1 ⟨d0, d1, d2, d3, bq, rfl, b, hres⟩
              clear g0 g1 g2 g3 HCJ HDJ
              have HO2 := Lib.hid (own_grown HOQ.out b)
              have HB2 := Lib.hid (HBQ.out.trans (b.mono HBQ.out.size))
              clear b HOQ HBQ
              rcases hres with ⟨hnone, rfl, rfl, rfl, rfl, rfl⟩ | ⟨x, hsome, rfl, hv⟩
              · have HNO := Lib.hid hnone
                clear hnone
                go_wp2_with fail
                have b : Below V1.heap.size V1 (V1.alloc (.cells #[.int .u8 0, .int .i64 0, .string ⟨#[]⟩, .slice none 0 0] 32)) := (Below.refl _ _).alloc (Nat.le_refl _) _
                have qn := Row4.new V1 #[.int .u8 0, .int .i64 0, .string ⟨#[]⟩, .slice none 0 0]
                revert b qn
                generalize (V1.alloc (.cells #[.int .u8 0, .int .i64 0, .string ⟨#[]⟩, .slice none 0 0] 32)) = V2
                intro b qn
                obtain ⟨n9, hn9⟩ : ∃ p, V1.heap.size = p := ⟨_, rfl⟩
                simp only [hn9] at qn ⊢
                clear hn9
                have R9 := Lib.hid qn
                clear qn
                have HO3 := Lib.hid (own_grown HO2.out b)
                have HB3 := Lib.hid (HB2.out.trans (b.mono HB2.out.size))
                clear b HO2 HB2
                go_wp2
                go_roundw
                case rel =>
                  refine ⟨j2 + 1, ms, by omega, by go_num, hml, fun z hz => ⟨(HMB.out z hz).1, by have := (HMB.out z hz).2; omega⟩, fun q h h' hq => HMM.out q h h' ?_, HO3.out, HB3.out⟩
                  obtain ⟨y, hy, hye⟩ := hq
                  rw [HTK.out, List.mem_append] at hy
                  rcases hy with hy | hy
                  · exact ⟨y, hy, hye⟩
                  · simp only [List.mem_singleton] at hy
                    rw [hy, HNO.out] at hye
                    cases hye
                case measure => simp [intOf]; omega
              · have hvI := hv.isTm (B := V1.heap.size) (fun _ h => h.2)
                have hxin := HM1.out all[j2] (List.getElem_mem hjx) x hsome
                obtain ⟨kx, nx, sx, ys⟩ := x
                have hv2 := hvI
                simp only [IsTm] at hv2
                obtain ⟨rfl, _, rfl, _, rfl, _, xa, xcap, rfl, _, _⟩ := hv2
                have HX := Lib.hid hvI
                have HSM := Lib.hid hsome
                have HXI := Lib.hid hxin
                clear hv hvI hsome hxin
                go_wp2_with fail
                have b : Below V1.heap.size V1 (V1.alloc (.cells #[.int .u8 kx, .int .i64 nx, .string sx, .slice xa ys.length xcap] 32)) := (Below.refl _ _).alloc (Nat.le_refl _) _
                have qn := Row4.new V1 #[.int .u8 kx, .int .i64 nx, .string sx, .slice xa ys.length xcap]
                revert b qn
                generalize (V1.alloc (.cells #[.int .u8 kx, .int .i64 nx, .string sx, .slice xa ys.length xcap] 32)) = V2
                intro b qn
                obtain ⟨n9, hn9⟩ : ∃ p, V1.heap.size = p := ⟨_, rfl⟩
                simp only [hn9] at qn ⊢
                clear hn9
                have R9 := Lib.hid qn
                clear qn
                have HX2 := Lib.hid ((HX.out.below b).mono b.size)
                have HO3 := Lib.hid (own_grown HO2.out b)
                have HB3 := Lib.hid (HB2.out.trans (b.mono HB2.out.size))
                have HL4 := Lib.hid (HBr.out.trans (HB3.out.mono HBr.out.size))
                clear b HO2 HB2 HX HB4
                go_wp2_with fail
                go_loopw [12, 13] (fun at0 kk wr => ∃ q : Nat, q ≤ l.length ∧ kk = .int .i64 q ∧ ((at0 = .int .i64 (-1) ∧ ∀ p (h : p < l.length), p < q → l[p] ≠ Tm.mk kx nx sx ys) ∨ ∃ (p : Nat) (h : p < l.length), p < q ∧ at0 = .int .i64 p ∧ l[p] = Tm.mk kx nx sx ys) ∧ Below V2.heap.size V2 wr) (fun _ kk _ => l.length - (intOf kk).toNat)
                case atStart => exact ⟨0, by omega, by go_num, Or.inl ⟨rfl, fun p _ h => absurd h (by omega)⟩, Below.refl _ _⟩
                case round =>
                  obtain ⟨q, hq, rfl, hat, hBi⟩ := hrel
                  have HAT := Lib.hid hat
                  have HBI := Lib.hid hBi
                  clear hat hBi
                  have m1 : (0 : Int) ≤ (q : Int) := by omega
                  by_cases hql : q < l.length
                  case pos =>
                    have m2 : (q : Int) < (l.length : Int) := by omega
                    obtain ⟨bl, ol, rfl, hbl, hI⟩ := HLR.out (by intro e; rw [e] at hql; simp at hql)
                    obtain ⟨p0, p1, p2, p3, s0, s1, s2, s3, hP⟩ := hI.at q hql
                    have HL5 := Lib.hid (HL4.out.trans (HBI.out.mono HL4.out.size))
                    have HPq := Lib.hid ((hP.below HL5.out).mono HL5.out.size)
                    have HXq := Lib.hid ((HX2.out.below HBI.out).mono HBI.out.size)
                    have R9q := Lib.hid (R9.out.grow HBI.out)
                    have G0 := Lib.hid (fun (wx : World) (hx : Below wr.heap.size wr wx) => show wx.cell? ⟨bl, ol + q * 4, none⟩ = some p0 ∧ wx.cell? ⟨bl, ol + q * 4 + 1, none⟩ = some p1 ∧ wx.cell? ⟨bl, ol + q * 4 + 2, none⟩ = some p2 ∧ wx.cell? ⟨bl, ol + q * 4 + 3, none⟩ = some p3 from
                      have h := HL5.out.trans (hx.mono HL5.out.size)
                      ⟨(h.cell (p := ⟨bl, ol + q * 4, none⟩) hbl).trans s0, (h.cell (p := ⟨bl, ol + q * 4 + 1, none⟩) hbl).trans s1, (h.cell (p := ⟨bl, ol + q * 4 + 2, none⟩) hbl).trans s2, (h.cell (p := ⟨bl, ol + q * 4 + 3, none⟩) hbl).trans s3⟩)
                    obtain ⟨EB, hEB⟩ : ∃ z, (Tm.cmp l[q] (Tm.mk kx nx sx ys) == 0) = z := ⟨_, rfl⟩
                    have EQ := Lib.hid (show Evr wr 21 #[.agg #[p0, p1, p2, p3], .agg #[.int .u8 kx, .int .i64 nx, .string sx, .slice xa ys.length xcap]] (.bool EB) from hEB ▸ equal_evr HPq.out HXq.out)
                    have HEB := Lib.hid (show (EB = true → l[q] = Tm.mk kx nx sx ys) ∧ (EB = false → l[q] ≠ Tm.mk kx nx sx ys) by
                      have hz := cmp_zero _ _ (good_of HPq.out) (good_of HXq.out)
                      rw [← hEB]
                      constructor
                      · intro h; exact hz.1 (by simpa using h)
                      · intro h he
                        have := hz.2 he
                        rw [this] at h
                        cases h)
                    clear hI s0 s1 s2 s3 hP HL5 HPq HXq hEB
                    go_wp2_with fail
                    refine wp_region_grow_or (by kernel_rfl) (FU (bzDescs24 l ys bl ol lc q n9 kx nx sx xa xcap p0 p1 p2 p3 EB )) (FU_grow _) (by kernel_rfl) (steps_or ?_) ?_
                    · refine ⟨?_, ?_, ?_, ?_, ?_, ?_, trivial⟩
                      · intro ac wz hb hd hs ho hp
                        refine Or.inl ⟨rfl, ?_⟩
                        have h3 : ac.tmps.getD 3 undef = .slice (some ⟨bl, ol, none⟩) l.length lc := (ho 3 (by kernel_rfl)).trans rfl
                        unfold Oper.wp
                        go_simp
                        exact Stepped.at rfl hd (Below.refl _ _) (FU_mk (.val (.slice (some ⟨bl, ol, none⟩) l.length lc)) rfl (by show (_ : Value) = _; first | rfl | (first | rfl | simp) | (simp [*])))
                      · intro ac wz hb hd hs ho hp
                        refine Or.inl ⟨rfl, ?_⟩
                        have h13 : ac.tmps.getD 13 undef = .int .i64 ((q : Int)) := (ho 13 (by kernel_rfl)).trans rfl
                        unfold Oper.wp
                        go_simp
                        exact Stepped.at rfl hd (Below.refl _ _) (FU_mk (.val (.int .i64 ((q : Int)))) rfl (by show (_ : Value) = _; first | rfl | (first | rfl | simp) | (simp [*])))
                      · intro ac wz hb hd hs ho hp
                        refine Or.inl ⟨rfl, ?_⟩
                        have h111 : ac.tmps.getD 111 undef = .slice (some ⟨bl, ol, none⟩) l.length lc := uval_at hp 0 111 (by kernel_rfl) rfl
                        have h112 : ac.tmps.getD 112 undef = .int .i64 ((q : Int)) := uval_at hp 1 112 (by kernel_rfl) rfl
                        unfold Oper.wp
                        go_simp
                        exact Stepped.at rfl hd (Below.refl _ _) (FU_mk (.val (.pointer (some ⟨bl, ol + q * 4, none⟩))) rfl (by show (_ : Value) = _; first | rfl | (first | rfl | simp) | (simp [*])))
                      · intro ac wz hb hd hs ho hp
                        refine Or.inl ⟨rfl, ?_⟩
                        have h113 : ac.tmps.getD 113 undef = .pointer (some ⟨bl, ol + q * 4, none⟩) := uval_at hp 2 113 (by kernel_rfl) rfl
                        obtain ⟨x0, x1, x2, x3⟩ := G0.out wz hb
                        unfold Oper.wp
                        go_simp
                        exact Stepped.at rfl hd (Below.refl _ _) (FU_mk (.val (.agg #[p0, p1, p2, p3])) rfl (by show (_ : Value) = _; first | rfl | (first | rfl | simp) | (simp [*])))
                      · intro ac wz hb hd hs ho hp
                        refine Or.inl ⟨rfl, ?_⟩
                        have h10 : ac.tmps.getD 10 undef = .pointer (some ⟨n9, 0, none⟩) := (ho 10 (by kernel_rfl)).trans rfl
                        have hx := R9q.out.grow hb
                        have x0 := cells_at hx 0 _ rfl
                        have x1 := cells_at hx 1 _ rfl
                        have x2 := cells_at hx 2 _ rfl
                        have x3 := cells_at hx 3 _ rfl
                        unfold Oper.wp
                        go_simp
                        exact Stepped.at rfl hd (Below.refl _ _) (FU_mk (.val (.agg #[.int .u8 kx, .int .i64 nx, .string sx, .slice xa ys.length xcap])) rfl (by show (_ : Value) = _; first | rfl | (first | rfl | simp) | (simp [*])))
                      · intro ac wz hb hd hs ho hp
                        refine Or.inl ⟨rfl, ?_⟩
                        have h114 : ac.tmps.getD 114 undef = .agg #[p0, p1, p2, p3] := uval_at hp 3 114 (by kernel_rfl) rfl
                        have h115 : ac.tmps.getD 115 undef = .agg #[.int .u8 kx, .int .i64 nx, .string sx, .slice xa ys.length xcap] := uval_at hp 4 115 (by kernel_rfl) rfl
                        unfold Oper.wp
                        go_simp
                        refine (EQ.out _ hb).mono ?_
                        rintro e2 w2 ⟨rfl, hb2⟩
                        exact Stepped.at rfl hd (hb2) (FU_mk (.val (.bool (EB))) rfl (by show (_ : Value) = _; first | rfl | simp))
                    intro ac V3 hJ
                    have f116 : ac.tmps.getD 116 undef = .bool (EB) := FU_at (.val (.bool (EB))) rfl (hJ.at_end 5 116 (by kernel_rfl))
                    obtain ⟨u111, f111⟩ : ∃ u, ac.tmps.getD 111 undef = u := ⟨_, rfl⟩
                    obtain ⟨u112, f112⟩ : ∃ u, ac.tmps.getD 112 undef = u := ⟨_, rfl⟩
                    obtain ⟨u113, f113⟩ : ∃ u, ac.tmps.getD 113 undef = u := ⟨_, rfl⟩
                    obtain ⟨u114, f114⟩ : ∃ u, ac.tmps.getD 114 undef = u := ⟨_, rfl⟩
                    obtain ⟨u115, f115⟩ : ∃ u, ac.tmps.getD 115 undef = u := ⟨_, rfl⟩
                    have b := hJ.below
                    obtain ⟨TT, DD⟩ := ac
                    obtain rfl : DD = [] := hJ.defers
                    have hE := slots_merge [false, false, false, false, false, false, false, false, false, false, false, false, false, false, false, false, false, false, false, false, false, false, false, false, false, false, false, false, false, false, false, false, false, false, false, false, false, false, false, false, false, false, false, false, false, false, false, false, false, false, false, false, false, false, false, false, false, false, false, false, false, false, false, false, false, false, false, false, false, false, false, false, false, false, false, false, false, false, false, false, false, false, false, false, false, false, false, false, false, false, false, false, false, false, false, false, false, false, false, false, false, false, false, false, false, false, false, false, false, false, false, true, true, true, true, true, true, false, false, false, false, false, false, false, false, false, false, false, false, false, false, false, false, false, false, false, false] 137 hJ.tmps rfl (by kernel_rfl) hJ.outer
                    simp only [mergeFrom, Nat.zero_add, Nat.reduceAdd, f111, f112, f113, f114, f115, f116] at hE
                    clear hJ f111 f112 f113 f114 f115 f116 
                    subst hE
                    have HBn := Lib.hid (HBI.out.trans (b.mono HBI.out.size))
                    clear b G0 EQ R9q
                    cases EB with
                    | true =>
                      have HN := Lib.hid (HEB.out.1 rfl)
                      clear HEB HAT
                      go_wp2
                      go_roundw
                      case rel => exact ⟨q + 1, by omega, by go_num, Or.inr ⟨q, hql, by omega, rfl, HN.out⟩, HBn.out⟩
                      case measure => simp [intOf]; omega
                    | false =>
                      have HN := Lib.hid (HEB.out.2 rfl)
                      clear HEB
                      go_wp2
                      go_roundw
                      case rel =>
                        refine ⟨q + 1, by omega, by go_num, ?_, HBn.out⟩
                        rcases HAT.out with ⟨h1, h2⟩ | ⟨p, hp, h1, h2, h3⟩
                        · refine Or.inl ⟨h1, fun p hp hpq => ?_⟩
                          by_cases e : p = q
                          · subst e; exact HN.out
                          · exact h2 p hp (by omega)
                        · exact Or.inr ⟨p, hp, by omega, h2, h3⟩
                      case measure => simp [intOf]; omega
                  case neg =>
                    have m2 : ¬ (q : Int) < (l.length : Int) := by omega
                    rcases HAT.out with ⟨_, h2⟩ | ⟨p, hp, _, rfl, h3⟩
                    · exfalso
                      obtain ⟨p, hp, he⟩ := List.mem_iff_getElem.1 HXI.out
                      exact h2 p hp (by omega) he
                    · have HOw := Lib.hid (own_grown HO3.out HBI.out)
                      have HBw := Lib.hid (HB3.out.trans (HBI.out.mono HB3.out.size))
                      have hms : p < ms.length := by omega
                      obtain ⟨zp, hzp⟩ : ∃ z, ms[p] = z := ⟨_, rfl⟩
                      have s0 : wr.cell? ⟨gm, p, none⟩ = some (.int .i64 zp) := by rw [HOw.out.cellAt p (by omega)]; simp [hms, hzp]
                      have s1 := HOw.out.frozenAt p
                      have hzb := HMB.out zp (hzp ▸ List.getElem_mem hms)
                      have w2 : IntKind.i64.wrap (zp + 1) = zp + 1 := IntWalk.i64_in _ (by omega)
                      have n1' : (0 : Int) ≤ (p : Int) := by omega
                      have n2' : (p : Int) < (l.length : Int) := by omega
                      have n3' : ¬ (p : Int) < 0 := by omega
                      have HST := Lib.hid (HOw.out.stored p (.int .i64 (zp + 1)))
                      have HZP := Lib.hid hzp
                      have HP3 := Lib.hid h3
                      clear hzp h3 HAT
                      go_wp2
                      go_roundw
                      case rel =>
                        refine ⟨j2 + 1, ms.set p (zp + 1), by omega, by go_num, by simp [hml], fun z hz => ?_, fun q h h' hq => ?_, by rw [List.map_set]; exact HST.out.1, HBw.out.grown HST.out.2 HBw.out.size (fun g e => by have := HGM.out; cases e; omega)⟩
                        · rcases List.mem_or_eq_of_mem_set hz with hz | rfl
                          · have := HMB.out z hz; omega
                          · omega
                        · by_cases e : p = q
                          · subst e
                            rw [List.getElem_set_self]
                            omega
                          · rw [List.getElem_set_ne e]
                            refine HMM.out q h (by omega) ?_
                            obtain ⟨y, hy, hye⟩ := hq
                            rw [HTK.out, List.mem_append] at hy
                            rcases hy with hy | hy
                            · exact ⟨y, hy, hye⟩
                            · exfalso
                              simp only [List.mem_singleton] at hy
                              rw [hy, HSM.out] at hye
                              have h4 := Option.some.inj hye
                              have h5 : l[p] = l[q] := by rw [HP3.out, h4]
                              rcases Nat.lt_or_gt_of_ne e with h6 | h6
                              · exact lt_ne (List.pairwise_iff_getElem.1 HSO.out p q hp h h6) h5
                              · exact lt_ne (List.pairwise_iff_getElem.1 HSO.out q p h hp h6) h5.symm
                      case measure => simp [intOf]; omega

theorem plain_any (t : Tm) (c0 c1 c2 c3 : Value) (w : World) (h : IsTm w.heap.size w c0 c1 c2 c3 t) (hw : t.Wf) (hc : t.count ≤ 60) : Calls Tryz.prog 17 #[.agg #[c0, c1, c2, c3]] w (PlainPost t w) := by
  refine (plain_at t c0 c1 c2 c3 w h hw hc).mono ?_
  rintro e w' ⟨v, b, he, hb, hv⟩
  refine ⟨v, b, he, hb, fun hbt => ?_⟩
  obtain ⟨all, h1, h2⟩ := hv hbt
  exact ⟨all, h1, h2.tms⟩
end
open Go.ChangeShapes Go.WideShapes Go.ChangeAt Go.RowKit

set_option maxRecDepth 100000 in
theorem expands_contract (H : Type) (enc : TypeId × Value → H) (W : World) (base : Nat) (args : Array Value) (ds gs : List (DataW H)) (before : List MemPlace)
    (hval : ∀ (j : Nat) t v, Tryz.f4.params[j]? = some t → args[j]? = some v → Value.okWide Tryz.prog W .any base t v)
    (hW : DataW.Whole enc Tryz.prog Tryz.f4.params.toList Rows.arithExpandsSpec.vars false W args.toList ds gs before) :
    Calls Tryz.prog 4 args W fun e W' => ∃ v, e = .returned v ∧ Rows.arithExpandsSpec.post enc Tryz.prog Tryz.f4 false true false false W args v W' := by
  have hW' := hW
  obtain ⟨p, q, hA0, hV, rfl, hfz, hnd⟩ := hW
  have hA : DataW.TrodAll enc Tryz.prog W 0 (fun _ => true) true Tryz.f4.params.toList args.toList ds p := hA0
  rw [Tryz.params4] at hA hval
  obtain ⟨v0, vs0, d0, ds0, p0, q0, hargs, rfl, rfl, h0, r0⟩ := trodAll_cons hA
  obtain ⟨rfl, rfl, rfl⟩ := trodAll_nil r0
  obtain rfl : args = #[v0] := by cases args; simp_all
  obtain ⟨rfl, rfl⟩ := trodVars_none hV
  obtain ⟨x0, y0, z0, u0, t0, rfl, i0⟩ := open_term (hval 0 32 v0 rfl rfl) h0
  clear hA0
  refine (match t0, i0 with | .mk k n s us, i0 => expands_any k n s us _ _ _ _ W i0 awake_any plain_any).mono fun e W' ⟨he, hg⟩ => ?_
  subst he
  refine ⟨_, rfl, post_of_below (pa := p0 ++ []) (pv := []) hW' (fun _ _ _ => trodAll_cons_mk (shut_bool Tryz.underlying4 _) trodAll_mk0) (fun sp hsp => ?_) (fun _ _ => rfl) rfl
    hg (ok_one (by kernel_rfl) rfl (okWide_bool_mk Tryz.underlying4 _))⟩
  rw [Tryz.params4]
  exact trodAll_cons_mk (shut_term h0 hg fun p hp => hsp p (by simp [hp])) trodAll_mk0

set_option maxRecDepth 100000 in
theorem expands_laid (os : Os) : laidMet Tryz.prog Rows.arithExpandsRow.laid ((World.laidAll Tryz.prog os Rows.arithExpandsRow.laid).forCall (fun _ _ => 0) ⟨#[], #[.agg #[.int .u8 0, .int .i64 0, .string ⟨#[]⟩, .slice none 0 0]], []⟩).memory :=
  laidMet_laidAll _ (by kernel_rfl) (by kernel_rfl)
theorem expands_reads (os : Os) {H : Type} (enc : TypeId × Value → H) : ∃ places, DataW.whole enc Tryz.prog ((World.laidAll Tryz.prog os Rows.arithExpandsRow.laid).forCall (fun _ _ => 0) ⟨#[], #[.agg #[.int .u8 0, .int .i64 0, .string ⟨#[]⟩, .slice none 0 0]], []⟩).memory Tryz.f4.params.toList Rows.arithExpandsSpec.vars false #[Value.agg #[.int .u8 0, .int .i64 0, .string ⟨#[]⟩, .slice none 0 0]].toList 8 = some ([.agg [.lit (.int .u8 0), .lit (.int .i64 0), .lit (.string []), .nil]], [], places) :=
  ⟨[], by kernel_rfl⟩

set_option maxRecDepth 100000 in
theorem expands_lifted (os : Os) (started : os.Started) (H : Type) (enc : TypeId × Value → H) (F : Stop.Interp) :
    ReturnsInHanded {} Tryz.checked os 4 .any ((OpenSpec.ofChange Rows.arithExpandsSpec).preRow enc Tryz.prog Tryz.f4 Rows.arithExpandsRow.domain false Rows.arithExpandsRow.laid) (((OpenSpec.ofChange Rows.arithExpandsSpec).at F).post enc Tryz.prog Tryz.f4 false true false false) := by
  obtain ⟨places, hx⟩ := expands_reads os enc
  refine returnsInHanded_of_row (C := Tryz.checked) (s := OpenSpec.ofChange Rows.arithExpandsSpec) laid_own started (by kernel_rfl) Tryz.func4
    (witness_row_at (enc := enc) (C := Tryz.checked) false (World.laidAll Tryz.prog os Rows.arithExpandsRow.laid) #[.agg #[.int .u8 0, .int .i64 0, .string ⟨#[]⟩, .slice none 0 0]] (World.laidAll_os _ _ _) (by kernel_rfl) (by kernel_rfl) (by kernel_rfl)
      (OpenSpec.preRow_of_cond 8 hx (by kernel_rfl) (fun k hk => by cases hk) (by kernel_rfl) (by rw [MakeChecks.laidMetH_plain _ _ _ (by kernel_rfl)]; exact expands_laid os))) ?_
  intro W base args ds gs before hval hW _ _ _ _ _ _
  exact expands_contract H enc W base args ds gs before hval hW

theorem expands_said : Rows.ArithExpandsSaid :=
  OpenClaim.holds_of_cond 4 Tryz.f4 rfl rfl rfl rfl rfl rfl rfl ⟨rfl, rfl, rfl, rfl, rfl⟩ rfl rfl rfl rfl rfl (by kernel_rfl) Tryz.func4 (by kernel_rfl)
    (of_decide_eq_true (by kernel_rfl)) (by unfold Func.isWrapper; first | (rw [if_pos (by decide +kernel)]; kernel_rfl) | (rw [if_neg (by decide +kernel)]; exact ⟨rfl, rfl⟩))
    (fun os started H enc _ F => by rw [OpenClaim.pre_eq_preRow]; exact expands_lifted os started H enc F)

theorem expands_plain (f : FuncId) (fn : Func) (hf : Tryz.pinned.checked.prog.funcNamed "ostler/ostlerlaw02.ArithExpands" = some f) (hfn : Tryz.pinned.checked.prog.funcs[f]? = some fn) :
    false = Tryz.pinned.checked.prog.looks [] ∧ ∀ (j : Nat) t, fn.params[j]? = some t → Tryz.pinned.checked.prog.wantsStandIn t = false := by
  obtain rfl : f = 4 := Option.some.inj ((show Tryz.prog.funcNamed "ostler/ostlerlaw02.ArithExpands" = some 4 by kernel_rfl).symm.trans hf) |>.symm
  obtain rfl : fn = Tryz.f4 := (Option.some.inj (Tryz.func4.symm.trans hfn)).symm
  refine ⟨by kernel_rfl, fun j t ht => ?_⟩
  rw [Tryz.params4] at ht
  obtain rfl : t = 32 := by
    have := Array.mem_of_getElem? ht
    simpa using this
  exact (show Tryz.prog.wantsStandIn 32 = false by kernel_rfl)

/-- The card. -/
theorem expands_card : Rows.ArithExpandsCardSaid :=
  Claim7.holds_tied_plain_at .later [] _ _ _ _ expands_said (fun _ h => by cases h) (by kernel_rfl) (fun _ h => by cases h) arithExpands_row_tie rfl ⟨rfl, rfl⟩ (by kernel_rfl) rfl expands_plain (by kernel_rfl)
end Go.Proofs.YtnobmffgchlijaaGreatDoor
