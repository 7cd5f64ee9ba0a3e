/- Evaluation of terms without intervals, as mathematics; the law of parts: its mathematics, and contracts that hold in every world that has only grown. -/
import Derived.Test.YtnobmffgchlijaaGreatDoorAt
import Derived.Test.YtnobmffgchlijaaGreatDoorEq
import Derived.Test.YtnobmffgchlijaaGreatDoorSz
import Derived.Test.YtnobmffgchlijaaGreatDoorOr
import Derived.Test.YtnobmffgchlijaaGreatDoorAu
namespace Go.Proofs.YtnobmffgchlijaaGreatDoor
open Go.RowKit

/-- All of them, if all are there. -/
def seqO {α : Type} : List (Option α) → Option (List α)
  | [] => some []
  | o :: os => o.bind fun x => (seqO os).bind fun xs => some (x :: xs)
theorem combos_seqO {α : Type} : ∀ os : List (Option α), combos (os.map Option.toList) = (seqO os).toList
  | [] => rfl
  | o :: os => by
    simp only [List.map_cons, combos, combos_seqO os, seqO]
    cases o with
    | none => rfl
    | some x => cases seqO os <;> rfl
theorem seqO_some {α : Type} : ∀ {os : List (Option α)} {xs : List α}, seqO os = some xs → os = xs.map some
  | [], xs, h => by simp only [seqO, Option.some.injEq] at h; subst h; rfl
  | o :: os, xs, h => by
    simp only [seqO, Option.bind_eq_some_iff, Option.some.injEq] at h
    obtain ⟨x, rfl, ys, hys, rfl⟩ := h
    rw [List.map_cons, seqO_some hys]
theorem seqO_mk {α : Type} : ∀ xs : List α, seqO (xs.map some) = some xs
  | [] => rfl
  | x :: xs => by simp only [List.map_cons, seqO, seqO_mk xs, Option.bind_some]

def intT (t : Tm) : Option Int := if t.kind = 1 then some t.num else none
theorem intsOf_toList (o : Option Tm) : intsOf o.toList = (o.bind intT).toList := by
  cases o with
  | none => rfl
  | some t => unfold intsOf intT; by_cases h : t.kind = 1 <;> simp [h]

mutual
/-- The value of a term without intervals. -/
def Tm.ev : Tm → Option Tm
  | .mk k n s args =>
    if k = 4 then (Tm.evL args).bind fun vs => some (.mk 4 0 s vs)
    else if k = 5 then (Tm.evL args).bind fun vs => (seqO (vs.map intT)).bind fun ns => (calcI s.toList ns).bind fun z => some (numT z)
    else some (.mk k n s [])
def Tm.evL : List Tm → Option (List Tm)
  | [] => some []
  | t :: ts => t.ev.bind fun v => (Tm.evL ts).bind fun vs => some (v :: vs)
end
theorem Tm.evL_seq : ∀ ts : List Tm, Tm.evL ts = seqO (ts.map Tm.ev)
  | [] => rfl
  | t :: ts => by simp only [Tm.evL, List.map_cons, seqO, Tm.evL_seq ts]
theorem seqO_bind {α β : Type} (f : α → Option β) : ∀ os : List (Option α), (seqO os).isSome = true → seqO (os.map fun o => o.bind f) = (seqO os).bind fun vs => seqO (vs.map f)
  | [], _ => rfl
  | o :: os, h => by
    simp only [List.map_cons, seqO] at h ⊢
    cases o with
    | none => simp at h
    | some x =>
      cases hs : seqO os with
      | none => rw [hs] at h; simp at h
      | some vs =>
        have := seqO_bind f os (by rw [hs]; rfl)
        rw [hs, Option.bind_some] at this
        simp only [Option.bind_some, this, List.map_cons, seqO]
theorem seqO_none_bind {α β : Type} (f : α → Option β) : ∀ os : List (Option α), seqO os = none → seqO (os.map fun o => o.bind f) = none
  | [], h => by cases h
  | o :: os, h => by
    simp only [List.map_cons, seqO] at h ⊢
    cases o with
    | none => rfl
    | some x =>
      cases hs : seqO os with
      | none =>
        rw [seqO_none_bind f os hs]
        simp only [Option.bind_some]
        cases f x <;> rfl
      | some vs => rw [hs] at h; cases h
theorem seqO_ints (os : List (Option Tm)) : seqO (os.map fun o => o.bind intT) = (seqO os).bind fun vs => seqO (vs.map intT) := by
  cases h : seqO os with
  | none => rw [seqO_none_bind intT os h]; rfl
  | some vs => rw [seqO_bind intT os (by rw [h]; rfl), h]

theorem Tm.spanBL_all : ∀ {ts : List Tm}, Tm.spanBL ts = false → ∀ t ∈ ts, t.spanB = false
  | a :: ts, h, t, ht => by
    simp only [Tm.spanBL, Bool.or_eq_false_iff] at h
    rcases List.mem_cons.1 ht with rfl | ht
    · exact h.1
    · exact Tm.spanBL_all h.2 t ht
theorem expL_ev : ∀ {ts : List Tm}, (∀ t ∈ ts, t.exp = some t.ev.toList) → Tm.expL ts = some ((ts.map Tm.ev).map Option.toList)
  | [], _ => rfl
  | t :: ts, h => by
    simp only [Tm.expL, h t (by simp), expL_ev (fun x hx => h x (List.mem_cons_of_mem _ hx)), Option.bind_some, List.map_cons]
theorem opt_len {α : Type} (o : Option α) : o.toList.length ≤ 1000 := by cases o <;> simp

theorem exp_ev (t : Tm) : t.Wf → t.spanB = false → t.exp = some t.ev.toList := by
  induction t using Tm.ind with
  | h k n s args ih =>
    intro hw hs
    simp only [Tm.Wf] at hw
    obtain ⟨_, _, h5, _, _, hwl⟩ := hw
    simp only [Tm.spanB, Bool.or_eq_false_iff, decide_eq_false_iff_not] at hs
    obtain ⟨hk6, hsl⟩ := hs
    have hL := expL_ev fun t ht => ih t ht (Tm.WfL_mem hwl ht) (Tm.spanBL_all hsl t ht)
    by_cases h4 : k = 4
    · subst h4
      simp only [Tm.exp, Tm.ev, if_true, hL, Option.bind_some, combos_seqO, Tm.evL_seq]
      rw [if_pos (opt_len _)]
      cases seqO (args.map Tm.ev) <;> rfl
    · by_cases hk5 : k = 5
      · subst hk5
        obtain ⟨o, ho⟩ := h5 rfl
        have e1 : ((args.map Tm.ev).map Option.toList).map intsOf = ((args.map Tm.ev).map fun o => o.bind intT).map Option.toList := by
          simp only [List.map_map]
          exact List.map_congr_left fun t _ => intsOf_toList _
        have e2 : combos (((args.map Tm.ev).map Option.toList).map intsOf) = ((seqO (args.map Tm.ev)).bind fun vs => seqO (vs.map intT)).toList := by
          rw [e1, combos_seqO, seqO_ints]
        simp only [Tm.exp, Tm.ev, hL, Option.bind_some, Tm.evL_seq, if_neg h4, if_true, ho]
        unfold resultsI
        rw [e2]
        have d0 : (if (([] : List Int).eraseDups).length ≤ 1000 then some ((sortI ([] : List Int).eraseDups).map numT) else none) = some [] := by simp [sortI]
        have d1 : ∀ z : Int, (if ([z].eraseDups).length ≤ 1000 then some ((sortI [z].eraseDups).map numT) else none) = some [numT z] := by intro z; simp [sortI, List.eraseDups_cons]
        cases hq : seqO (args.map Tm.ev) with
        | none => exact d0
        | some vs =>
          simp only [Option.bind_some]
          cases hn : seqO (vs.map intT) with
          | none => exact d0
          | some ns =>
            have hlen : ns.length = args.length := by
              have l1 := congrArg List.length (seqO_some hq)
              have l2 := congrArg List.length (seqO_some hn)
              simp only [List.length_map] at l1 l2
              omega
            have hc : calcI s.toList ns = applyI o ns := by unfold calcI; rw [hlen, ho]
            simp only [Option.bind_some, hc, Option.toList_some, List.filterMap_cons, List.filterMap_nil]
            obtain ⟨q, hq'⟩ : ∃ q, applyI o ns = q := ⟨_, rfl⟩
            simp only [hq']
            cases q with
            | none => exact d0
            | some z => exact d1 z
      · simp only [Tm.exp, Tm.ev, if_neg h4, if_neg hk5, if_neg hk6]
        rfl
theorem evalT_ev (t : Tm) : evalT t = if t.spanB then none else if t.validB && t.groundB then t.ev else none := by
  unfold evalT
  cases hs : t.spanB
  · cases hv : t.validB
    · rfl
    · cases hg : t.groundB
      · rfl
      · rw [exp_ev t (valid_wf hv).1 hs]
        cases t.ev <;> rfl
  · rfl

theorem reqB_one {n : Int} {s : ByteArray} {m : Nat} (h : reqB 1 n s m = true) : m = 0 := by
  unfold reqB at h
  rw [if_pos rfl] at h
  simp only [Bool.and_eq_true, decide_eq_true_eq] at h
  exact h.2
theorem reqB_two {n : Int} {s : ByteArray} {m : Nat} (h : reqB 2 n s m = true) : m = 0 := by
  unfold reqB at h
  rw [if_neg (by omega), if_pos rfl] at h
  simp only [Bool.and_eq_true, decide_eq_true_eq] at h
  exact h.1.2
theorem reqB_four {n : Int} {s : ByteArray} {m : Nat} (h : reqB 4 n s m = true) : n = 0 := by
  unfold reqB at h
  rw [if_neg (by omega), if_neg (by omega), if_neg (by omega), if_pos rfl] at h
  simp only [Bool.and_eq_true, decide_eq_true_eq] at h
  exact h.1.1.1
theorem reqB_leaf {k n : Int} {s : ByteArray} {m : Nat} (h : reqB k n s m = true) (h3 : k ≠ 3) (h4 : k ≠ 4) (h5 : k ≠ 5) (h6 : k ≠ 6) : (k = 1 ∨ k = 2) ∧ m = 0 := by
  by_cases h1 : k = 1
  · subst h1; exact ⟨Or.inl rfl, reqB_one h⟩
  · by_cases h2 : k = 2
    · subst h2; exact ⟨Or.inr rfl, reqB_two h⟩
    · unfold reqB at h
      rw [if_neg h1, if_neg h2, if_neg h3, if_neg h4, if_neg h5, if_neg h6] at h
      cases h
theorem node_parts {k n : Int} {s : ByteArray} {args : List Tm} {p : Nat} (h : nodeOkB (.mk k n s args, p) = true) : p ≤ 12 ∧ reqB k n s args.length = true := by
  unfold nodeOkB at h
  rw [Bool.and_eq_true, decide_eq_true_eq] at h
  exact h
theorem node_mk {k n : Int} {s : ByteArray} {args : List Tm} {p : Nat} (h1 : p ≤ 12) (h2 : reqB k n s args.length = true) : nodeOkB (.mk k n s args, p) = true := by
  unfold nodeOkB
  rw [Bool.and_eq_true, decide_eq_true_eq]
  exact ⟨h1, h2⟩
theorem plain_parts {k n : Int} {s : ByteArray} {args : List Tm} {p : Nat} (h : plainB (.mk k n s args, p) = true) : k = 1 ∨ k = 2 ∨ k = 4 := by
  unfold plainB at h
  simp only [Bool.or_eq_true, decide_eq_true_eq] at h
  rcases h with (h | h) | h
  · exact Or.inl h
  · exact Or.inr (Or.inl h)
  · exact Or.inr (Or.inr h)
theorem plain_mk {k n : Int} {s : ByteArray} {args : List Tm} {p : Nat} (h : k = 1 ∨ k = 2 ∨ k = 4) : plainB (.mk k n s args, p) = true := by
  unfold plainB
  rcases h with rfl | rfl | rfl <;> rfl
/-- A node that is no variable. -/
def noVarB (x : Tm × Nat) : Bool := !x.1.isVar
mutual
theorem ev_self : ∀ (t : Tm) (p : Nat), (t.nodes p).all nodeOkB = true → (t.nodes p).all plainB = true → t.ev = some t ∧ t.spanB = false ∧ (t.nodes p).all noVarB = true
  | .mk k n s args, p, ho, hp => by
    simp only [Tm.nodes, List.all_cons, Bool.and_eq_true] at ho hp
    have hl := evL_self args (p + 1) ho.2 hp.2
    obtain ⟨_, h3⟩ := node_parts ho.1
    have hk := plain_parts hp.1
    have hv : noVarB (.mk k n s args, p) = true := by rcases hk with rfl | rfl | rfl <;> rfl
    have hsp : (Tm.mk k n s args).spanB = false := by
      simp only [Tm.spanB, hl.2.1, Bool.or_false, decide_eq_false_iff_not]
      omega
    refine ⟨?_, hsp, by simp only [Tm.nodes, List.all_cons, hv, hl.2.2, Bool.and_self]⟩
    rcases hk with rfl | rfl | rfl
    · have : args = [] := List.length_eq_zero_iff.1 (reqB_one h3)
      subst this
      rfl
    · have : args = [] := List.length_eq_zero_iff.1 (reqB_two h3)
      subst this
      rfl
    · have : n = 0 := reqB_four h3
      subst this
      simp only [Tm.ev, if_true, hl.1, Option.bind_some]
theorem evL_self : ∀ (ts : List Tm) (p : Nat), (Tm.nodesL p ts).all nodeOkB = true → (Tm.nodesL p ts).all plainB = true → Tm.evL ts = some ts ∧ Tm.spanBL ts = false ∧ (Tm.nodesL p ts).all noVarB = true
  | [], _, _, _ => ⟨rfl, rfl, rfl⟩
  | t :: ts, p, ho, hp => by
    simp only [Tm.nodesL, List.all_append, Bool.and_eq_true] at ho hp
    have h1 := ev_self t p ho.1 hp.1
    have h2 := evL_self ts p ho.2 hp.2
    simp only [Tm.evL, Tm.spanBL, Tm.nodesL, List.all_append, h1.1, h1.2.1, h1.2.2, h2.1, h2.2.1, h2.2.2, Option.bind_some, Bool.or_self, Bool.and_self]
    exact ⟨trivial, trivial, trivial⟩
end
theorem evalT_value {t : Tm} (h : t.valueB = true) : evalT t = some t := by
  unfold Tm.valueB at h
  rw [Bool.and_eq_true] at h
  obtain ⟨h1, h2, h3⟩ := ev_self t 1 h.1 h.2
  rw [evalT_ev, h2, h.1, h1, show t.groundB = true from h3]
  rfl
theorem numT_nodes {z : Int} {p : Nat} (hp : p ≤ 12) (hz : outB z = false) : ((numT z).nodes p).all nodeOkB = true ∧ ((numT z).nodes p).all plainB = true := by
  have := outB_false.1 hz
  have hr : reqB 1 z ⟨#[]⟩ ([] : List Tm).length = true := by
    unfold reqB
    rw [if_pos rfl, show (⟨#[]⟩ : ByteArray).toList = [] from toList_mk []]
    simp [this.1, this.2]
  unfold numT
  simp only [Tm.nodes, Tm.nodesL, List.all_cons, List.all_nil, Bool.and_true]
  exact ⟨node_mk hp hr, plain_mk (Or.inl rfl)⟩
theorem calcI_fits {s : List UInt8} {l : List Int} {z : Int} (h : calcI s l = some z) : outB z = false := by
  unfold calcI at h
  cases ho : arOf s l.length with
  | none => rw [ho] at h; cases h
  | some o =>
    rw [ho] at h
    simp only [applyI] at h
    split at h
    · cases h
    · split at h
      · cases h
      · split at h
        · cases h
        · rename_i hn; cases h; simpa using hn
mutual
theorem ev_value : ∀ (t : Tm) (p : Nat) (v : Tm), (t.nodes p).all nodeOkB = true → (t.nodes p).all noVarB = true → t.spanB = false → t.ev = some v → (v.nodes p).all nodeOkB = true ∧ (v.nodes p).all plainB = true
  | .mk k n s args, p, v, ho, hv, hs, he => by
    simp only [Tm.nodes, List.all_cons, Bool.and_eq_true] at ho hv
    simp only [Tm.spanB, Bool.or_eq_false_iff, decide_eq_false_iff_not] at hs
    obtain ⟨hp, h1⟩ := node_parts ho.1
    have h2 : k ≠ 3 := by
      have := hv.1
      unfold noVarB Tm.isVar at this
      simp only [Bool.not_eq_true', decide_eq_false_iff_not] at this
      exact this
    simp only [Tm.ev] at he
    by_cases h4 : k = 4
    · subst h4
      simp only [if_true, Option.bind_eq_some_iff, Option.some.injEq] at he
      obtain ⟨vs, hvs, rfl⟩ := he
      have hl := evL_value args (p + 1) vs ho.2 hv.2 hs.2 hvs
      have hn : n = 0 := reqB_four h1
      subst hn
      rw [← hl.2.2] at h1
      simp only [Tm.nodes, List.all_cons, Bool.and_eq_true]
      exact ⟨⟨node_mk hp h1, hl.1⟩, plain_mk (Or.inr (Or.inr rfl)), hl.2.1⟩
    · rw [if_neg h4] at he
      by_cases h5 : k = 5
      · subst h5
        simp only [if_true, Option.bind_eq_some_iff, Option.some.injEq] at he
        obtain ⟨_, _, _, _, z, hz, rfl⟩ := he
        exact numT_nodes hp (calcI_fits hz)
      · rw [if_neg h5] at he
        cases he
        obtain ⟨hk, h0⟩ := reqB_leaf h1 h2 h4 h5 hs.1
        have ha : args = [] := List.length_eq_zero_iff.1 h0
        subst ha
        simp only [Tm.nodes, Tm.nodesL, List.all_cons, List.all_nil, Bool.and_true]
        exact ⟨node_mk hp h1, plain_mk (by omega)⟩
theorem evL_value : ∀ (ts : List Tm) (p : Nat) (vs : List Tm), (Tm.nodesL p ts).all nodeOkB = true → (Tm.nodesL p ts).all noVarB = true → Tm.spanBL ts = false → Tm.evL ts = some vs → (Tm.nodesL p vs).all nodeOkB = true ∧ (Tm.nodesL p vs).all plainB = true ∧ vs.length = ts.length
  | [], _, vs, _, _, _, he => by simp only [Tm.evL, Option.some.injEq] at he; subst he; exact ⟨rfl, rfl, rfl⟩
  | t :: ts, p, vs, ho, hv, hs, he => by
    simp only [Tm.nodesL, List.all_append, Bool.and_eq_true] at ho hv
    simp only [Tm.spanBL, Bool.or_eq_false_iff] at hs
    simp only [Tm.evL, Option.bind_eq_some_iff, Option.some.injEq] at he
    obtain ⟨v, h1, ws, h2, rfl⟩ := he
    have a := ev_value t p v ho.1 hv.1 hs.1 h1
    have b := evL_value ts p ws ho.2 hv.2 hs.2 h2
    simp only [Tm.nodesL, List.all_append, a.1, a.2, b.1, b.2.1, Bool.and_self, List.length_cons, b.2.2]
    exact ⟨trivial, trivial, trivial⟩
end
theorem evalT_parts {t v : Tm} (h : evalT t = some v) : t.spanB = false ∧ t.validB = true ∧ t.groundB = true ∧ t.ev = some v := by
  rw [evalT_ev] at h
  cases hs : t.spanB with
  | true => rw [hs] at h; cases h
  | false =>
    rw [hs] at h
    simp only [Bool.false_eq_true, if_false] at h
    split at h
    · rename_i hc
      rw [Bool.and_eq_true] at hc
      exact ⟨rfl, hc.1, hc.2, h⟩
    · cases h
theorem evalT_isValue {t v : Tm} (h : evalT t = some v) : v.valueB = true := by
  obtain ⟨hs, hv, hg, he⟩ := evalT_parts h
  have := ev_value t 1 v hv hg hs he
  unfold Tm.valueB
  rw [Bool.and_eq_true]
  exact this
theorem evalT_none {t : Tm} (h : evalT t = none) : t.valueB = false := by
  cases hv : t.valueB with
  | false => rfl
  | true => rw [evalT_value hv] at h; cases h
theorem node_low {x : Tm × Nat} (h : nodeOkB (x.1, x.2 + 1) = true) : nodeOkB x = true := by
  unfold nodeOkB at *
  simp only [Bool.and_eq_true, decide_eq_true_eq] at *
  exact ⟨by omega, h.2⟩
mutual
theorem nodes_up (l : Nat) : ∀ t : Tm, t.nodes (l + 1) = (t.nodes l).map fun x => (x.1, x.2 + 1)
  | .mk k n s args => by simp only [Tm.nodes, List.map_cons, nodesL_up (l + 1) args]
theorem nodesL_up (l : Nat) : ∀ ts : List Tm, Tm.nodesL (l + 1) ts = (Tm.nodesL l ts).map fun x => (x.1, x.2 + 1)
  | [] => rfl
  | t :: ts => by simp only [Tm.nodesL, List.map_append, nodes_up l t, nodesL_up l ts]
end
theorem mem_nodesL {l : Nat} : ∀ {ts : List Tm} {t : Tm} {x : Tm × Nat}, t ∈ ts → x ∈ t.nodes l → x ∈ Tm.nodesL l ts
  | a :: ts, t, x, ht, hx => by
    simp only [Tm.nodesL, List.mem_append]
    rcases List.mem_cons.1 ht with rfl | ht
    · exact Or.inl hx
    · exact Or.inr (mem_nodesL ht hx)
/-- An argument of what has a value has one. -/
theorem evalT_arg {k n : Int} {s : ByteArray} {args : List Tm} {v : Tm} (h : evalT (.mk k n s args) = some v) (i : Nat) (hi : i < args.length) : ∃ x, evalT args[i] = some x ∧ args[i].ev = some x := by
  obtain ⟨hs, hv, hg, he⟩ := evalT_parts h
  simp only [Tm.spanB, Bool.or_eq_false_iff, decide_eq_false_iff_not] at hs
  have hm : args[i] ∈ args := List.getElem_mem hi
  unfold Tm.validB at hv
  unfold Tm.groundB at hg
  simp only [Tm.nodes, List.all_cons, Bool.and_eq_true] at hv hg
  have hv' : args[i].validB = true := by
    unfold Tm.validB
    rw [List.all_eq_true]
    intro x hx
    refine node_low (List.all_eq_true.1 hv.2 (x.1, x.2 + 1) (mem_nodesL hm ?_))
    rw [nodes_up]
    exact List.mem_map.2 ⟨x, hx, rfl⟩
  have hg' : args[i].groundB = true := by
    unfold Tm.groundB
    rw [List.all_eq_true]
    intro x hx
    exact List.all_eq_true.1 hg.2 (x.1, x.2 + 1) (mem_nodesL hm (by rw [nodes_up]; exact List.mem_map.2 ⟨x, hx, rfl⟩))
  have hs' := Tm.spanBL_all hs.2 _ hm
  have hx : ∃ x, args[i].ev = some x := by
    have hev : ∃ vs, Tm.evL args = some vs := by
      simp only [Tm.ev] at he
      by_cases h4 : k = 4
      · rw [if_pos h4] at he
        simp only [Option.bind_eq_some_iff] at he
        exact ⟨_, he.choose_spec.1⟩
      · rw [if_neg h4] at he
        by_cases h5 : k = 5
        · rw [if_pos h5] at he
          simp only [Option.bind_eq_some_iff] at he
          exact ⟨_, he.choose_spec.1⟩
        · exfalso
          have h2 : k ≠ 3 := by
            have := hg.1
            unfold Tm.isVar at this
            simp only [Bool.not_eq_true', decide_eq_false_iff_not] at this
            exact this
          have := (reqB_leaf (node_parts hv.1).2 h2 h4 h5 hs.1).2
          omega
    obtain ⟨vs, hvs⟩ := hev
    rw [Tm.evL_seq] at hvs
    have := seqO_some hvs
    have h2 : (args.map Tm.ev)[i]? = (vs.map some)[i]? := by rw [this]
    rw [List.getElem?_map, List.getElem?_eq_getElem hi, List.getElem?_map] at h2
    cases hq : vs[i]? with
    | none => rw [hq] at h2; cases h2
    | some x => rw [hq] at h2; exact ⟨x, by simpa using h2⟩
  obtain ⟨x, hx⟩ := hx
  exact ⟨x, by rw [evalT_ev, hs', hv', hg', hx]; rfl, hx⟩

theorem parts_math {k n : Int} {s : ByteArray} {us : List Tm} {v : Tm} (h : evalT (.mk k n s us) = some v) :
    ∃ xs : List Tm, xs.length = us.length ∧ (∀ j (h : j < us.length) (h' : j < xs.length), evalT us[j] = some xs[j]) ∧ (k = 4 → v = .mk 4 0 s xs) ∧ (k = 5 → ∃ z, calcI s.toList (xs.map Tm.num) = some z ∧ v = numT z) ∧ (k ≠ 4 → v.kind ≠ 4) := by
  have harg := fun i hi => evalT_arg h i hi
  obtain ⟨hs, hv, hg, he⟩ := evalT_parts h
  have hex : ∃ xs, Tm.evL us = some xs := by
    rw [Tm.evL_seq]
    have : us.map Tm.ev = (us.map fun t => (t.ev.getD t)).map some := by
      apply List.ext_getElem
      · simp
      · intro i h1 h2
        obtain ⟨x, _, hx⟩ := harg i (by simpa using h1)
        simp [hx]
    rw [this]
    exact ⟨_, seqO_mk _⟩
  obtain ⟨xs, hxs⟩ := hex
  have hmap : us.map Tm.ev = xs.map some := seqO_some (by rw [← Tm.evL_seq]; exact hxs)
  have hlen : xs.length = us.length := by have := congrArg List.length hmap; simpa using this.symm
  refine ⟨xs, hlen, fun j hj hj' => ?_, fun h4 => ?_, fun h5 => ?_, fun h4 => ?_⟩
  · obtain ⟨x, hx, hev⟩ := harg j hj
    rw [hx]
    have h2 : (us.map Tm.ev)[j]? = (xs.map some)[j]? := by rw [hmap]
    rw [List.getElem?_map, List.getElem?_eq_getElem hj, List.getElem?_map, List.getElem?_eq_getElem hj'] at h2
    simp only [Option.map_some, Option.some.injEq] at h2
    rw [← h2, hev]
  · subst h4
    simp only [Tm.ev, if_true, hxs, Option.bind_some, Option.some.injEq] at he
    exact he.symm
  · subst h5
    simp only [Tm.ev, if_true, hxs, Option.bind_some, show ¬ ((5 : Int) = 4) by omega, if_false, Option.bind_eq_some_iff, Option.some.injEq] at he
    obtain ⟨ns, hns, z, hz, rfl⟩ := he
    refine ⟨z, ?_, rfl⟩
    have h1 := seqO_some hns
    have h2 : xs.map Tm.num = ns := by
      apply List.ext_getElem
      · have := congrArg List.length h1; simpa using this
      · intro i a b
        have h3 : (xs.map intT)[i]? = (ns.map some)[i]? := by rw [h1]
        have a' : i < xs.length := by simpa using a
        rw [List.getElem?_map, List.getElem?_eq_getElem a', List.getElem?_map, List.getElem?_eq_getElem b] at h3
        simp only [Option.map_some, Option.some.injEq, intT] at h3
        split at h3
        · have h4 := Option.some.inj h3
          simpa using h4
        · cases h3
    rw [h2]; exact hz
  · simp only [Tm.ev, if_neg h4] at he
    split at he
    · simp only [Option.bind_eq_some_iff, Option.some.injEq] at he
      obtain ⟨_, _, _, _, z, _, rfl⟩ := he
      simp [numT, Tm.kind]
    · cases he; exact h4

mutual
theorem node_depth : ∀ (t : Tm) (p : Nat), (t.nodes p).all nodeOkB = true → p + t.depth ≤ 13
  | .mk k n s args, p, h => by
    simp only [Tm.nodes, List.all_cons, Bool.and_eq_true] at h
    have h1 := (node_parts h.1).1
    have := nodeL_depth args (p + 1) (by omega) h.2
    simp only [Tm.depth]; omega
theorem nodeL_depth : ∀ (ts : List Tm) (p : Nat), p ≤ 13 → (Tm.nodesL p ts).all nodeOkB = true → p + Tm.depthL ts ≤ 13
  | [], p, hp, _ => by simp only [Tm.depthL]; omega
  | t :: ts, p, hp, h => by
    simp only [Tm.nodesL, List.all_append, Bool.and_eq_true] at h
    have h1 := node_depth t p h.1
    have h2 := nodeL_depth ts p hp h.2
    simp only [Tm.depthL]; omega
end
theorem value_depth {t : Tm} (h : t.valueB = true) : t.depth ≤ 12 := by
  unfold Tm.valueB at h
  rw [Bool.and_eq_true] at h
  have := node_depth t 1 h.1
  omega
theorem Tm.length_le_countL : ∀ ts : List Tm, ts.length ≤ Tm.countL ts
  | [] => by simp [Tm.countL]
  | .mk k n s args :: ts => by have := Tm.length_le_countL ts; simp only [Tm.countL, Tm.count, List.length_cons]; omega
theorem cmp_self {t : Tm} (h : t.Good) : (Tm.cmp t t == 0) = true := by
  have := (cmp_zero t t h h).2 rfl
  rw [this]; rfl

/-- A contract that holds in every world that has only grown. -/
def Evr (w : World) (f : FuncId) (args : Array Value) (v : Value) : Prop := ∀ w', Below w.heap.size w w' → Calls Tryz.prog f args w' fun e w2 => e = .returned v ∧ Below w'.heap.size w' w2
theorem Evr.grow {w w' : World} {f : FuncId} {args : Array Value} {v : Value} (h : Evr w f args v) (hb : Below w.heap.size w w') : Evr w' f args v := fun w2 h2 => h w2 (hb.trans (h2.mono hb.size))
theorem equal_evr {w : World} {a0 a1 a2 a3 b0 b1 b2 b3 : Value} {ta tb : Tm} (hA : IsTm w.heap.size w a0 a1 a2 a3 ta) (hB : IsTm w.heap.size w b0 b1 b2 b3 tb) :
    Evr w 21 #[.agg #[a0, a1, a2, a3], .agg #[b0, b1, b2, b3]] (.bool (Tm.cmp ta tb == 0)) := fun w' h => equal_any ta tb _ _ _ _ _ _ _ _ w' ((hA.below h).mono h.size) ((hB.below h).mono h.size)
theorem value_evr {w : World} {a0 a1 a2 a3 : Value} {t : Tm} (hA : IsTm w.heap.size w a0 a1 a2 a3 t) (hd : t.depth < 4611686018427387900) :
    Evr w 18 #[.agg #[a0, a1, a2, a3]] (.bool t.valueB) := fun w' h => value_any t _ _ _ _ w' ((hA.below h).mono h.size) hd

/-- A row of four cells. -/
def Row4 (p : Nat) (cs : Array Value) (w : World) : Prop := w.heap[p]? = some (.cells cs 32 (0, 0))
theorem Row4.grow {p : Nat} {cs : Array Value} {w w' : World} (h : Row4 p cs w) (hb : Below w.heap.size w w') : Row4 p cs w' := (hb.block p (Array.getElem?_eq_some_iff.1 h).1).trans h
theorem Row4.new (w : World) (cs : Array Value) : Row4 w.heap.size cs (w.alloc (.cells cs 32)) := World.alloc_heap_new w _

end Go.Proofs.YtnobmffgchlijaaGreatDoor
