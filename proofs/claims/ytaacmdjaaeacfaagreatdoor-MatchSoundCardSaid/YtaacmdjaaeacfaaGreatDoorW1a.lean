/- Texts that belong together: Package match: what matching does, told without order (plain mathematics). Package match: the result of a match (mathematics of MatchSound). The laws of match: outer variables. The laws of match: among. MatchSound: its walk. -/
import Derived.Test.YtaacmdjaaeacfaaGreatDoorWk
import Derived.Test.YtaacmdjaaeacfaaGreatDoorWh
import Derived.Test.YtaacmdjaaeacfaaGreatDoorWn
import Derived.Laws.AppendOwnNone
namespace Go.Proofs.YtaacmdjaaeacfaaGreatDoor
open Go.RowKit Go.Shelf

theorem nreq_four {n : Int} {s : ByteArray} {m : Nat} (h : reqB 4 n s m = true) : n = 0 := by
  unfold reqB at h
  simp at h
  exact h.1.1.1
theorem nreq_leaf {k n : Int} {s : ByteArray} {m : Nat} (h : reqB k n s m = true) (h3 : k ≠ 3) (h4 : k ≠ 4) (h5 : k ≠ 5) (h6 : k ≠ 6) : (k = 1 ∨ k = 2) ∧ m = 0 := by
  unfold reqB at h
  by_cases h1 : k = 1
  · simp [h1] at h
    exact ⟨Or.inl h1, h.2⟩
  · by_cases h2 : k = 2
    · simp [h2] at h
      exact ⟨Or.inr h2, h.1.2⟩
    · simp [h1, h2, h3, h4, h5, h6] at h
theorem nreq_three {n : Int} {s : ByteArray} {m : Nat} (h : reqB 3 n s m = true) : variableB s = true := by
  unfold reqB at h
  simp at h
  exact h.2
mutual
theorem nodes_closed : ∀ (t : Tm) (p : Nat), (t.nodes p).all (fun x => !x.1.isVar) = t.closedB
  | .mk k n s us, p => by
    simp only [Tm.nodes, List.all_cons, Tm.closedB]
    rw [nodesL_closed us (p + 1)]
    rfl
theorem nodesL_closed : ∀ (ts : List Tm) (p : Nat), (Tm.nodesL p ts).all (fun x => !x.1.isVar) = Tm.closedBL ts
  | [], _ => rfl
  | t :: ts, p => by
    simp only [Tm.nodesL, List.all_append, Tm.closedBL]
    rw [nodes_closed t p, nodesL_closed ts p]
end
theorem ground_closed (t : Tm) : t.groundB = t.closedB := nodes_closed t 1
theorem srt_ext : ∀ {b c : Bd}, Srt b → Srt c → (∀ n, lookB b n = lookB c n) → b = c
  | [], [], _, _, _ => rfl
  | [], y :: q, _, hc, h => by
    have := h y.1
    rw [look_srt hc (x := y) (by simp)] at this
    cases this
  | x :: r, [], hb, _, h => by
    have := h x.1
    rw [look_srt hb (x := x) (by simp)] at this
    cases this
  | x :: r, y :: q, hb, hc, h => by
    have hb0 := hb
    have hc0 := hc
    unfold Srt at hb hc
    rw [List.pairwise_cons] at hb hc
    have e : x.1 = y.1 := by
      refine Classical.byContradiction fun hne => ?_
      cases hl : lessS x.1 y.1 with
      | true =>
        have h1 := h x.1
        rw [look_srt hb0 (x := x) (by simp)] at h1
        have h2 := look_mem h1.symm
        rcases List.mem_cons.1 h2 with h3 | h3
        · exact hne (by rw [← h3])
        · have := lessS_trans hl (hc.1 _ h3)
          rw [lessS_irrefl] at this; cases this
      | false =>
        have hl := lessS_total hl hne
        have h1 := h y.1
        rw [look_srt hc0 (x := y) (by simp)] at h1
        have h2 := look_mem h1
        rcases List.mem_cons.1 h2 with h3 | h3
        · exact hne (by rw [← h3])
        · have := lessS_trans hl (hb.1 _ h3)
          rw [lessS_irrefl] at this; cases this
    have e2 : x = y := by
      have h1 := h x.1
      rw [look_srt hb0 (x := x) (by simp), e, look_srt hc0 (x := y) (by simp)] at h1
      cases x; cases y
      simp only at e h1
      cases h1; cases e; rfl
    subst e2
    have ht : ∀ n, lookB r n = lookB q n := by
      intro n
      by_cases hn : x.1 = n
      · have h1 : lookB r n = none := look_none.2 fun z hz e => by
          have := hb.1 z hz
          rw [e, hn, lessS_irrefl] at this; cases this
        have h2 : lookB q n = none := look_none.2 fun z hz e => by
          have := hc.1 z hz
          rw [e, hn, lessS_irrefl] at this; cases this
        rw [h1, h2]
      · have := h n
        unfold lookB at this ⊢
        rwa [List.find?_cons_of_neg (by simpa using hn), List.find?_cons_of_neg (by simpa using hn)] at this
    rw [srt_ext hb.2 hc.2 ht]
def bindAll : Bd → Bd → Option Bd
  | b, [] => some b
  | b, x :: r => (bindB b x.1 x.2).bind fun b' => bindAll b' r
theorem bindAll_append : ∀ (x b y : Bd), bindAll b (x ++ y) = (bindAll b x).bind fun b' => bindAll b' y
  | [], _, _ => rfl
  | a :: x, b, y => by
    simp only [List.cons_append, bindAll]
    cases bindB b a.1 a.2 with
    | none => rfl
    | some b' => exact bindAll_append x b' y
structure Holds (b xs c : Bd) : Prop where
  srt : Srt c
  old : ∀ n u, lookB b n = some u → lookB c n = some u
  new : ∀ x ∈ xs, lookB c x.1 = some x.2
  only : ∀ n, lookB c n ≠ none → lookB b n ≠ none ∨ ∃ x ∈ xs, x.1 = n
theorem bindAll_iff : ∀ {xs b c : Bd}, Srt b → (∀ x ∈ b, x.2.Good) → (∀ x ∈ xs, x.2.Good) → (bindAll b xs = some c ↔ Holds b xs c)
  | [], b, c, hs, _, _ => by
    simp only [bindAll, Option.some.injEq]
    constructor
    · rintro rfl
      exact ⟨hs, fun _ _ h => h, fun x h => (List.not_mem_nil h).elim, fun _ h => Or.inl h⟩
    · intro h
      refine srt_ext hs h.srt fun n => ?_
      cases hl : lookB b n with
      | some u => rw [h.old n u hl]
      | none =>
        cases hc : lookB c n with
        | none => rfl
        | some u =>
          rcases h.only n (by rw [hc]; simp) with h1 | ⟨x, hx, _⟩
          · exact absurd hl h1
          · cases hx
  | x :: r, b, c, hs, hg, hx => by
    have hxg := hx x (by simp)
    have hrg : ∀ y ∈ r, y.2.Good := fun y hy => hx y (List.mem_cons_of_mem _ hy)
    simp only [bindAll, Option.bind_eq_some_iff]
    constructor
    · rintro ⟨b', hb', hr⟩
      rcases (bindB_some hs hg hxg).1 hb' with ⟨hl, rfl⟩ | ⟨hl, rfl⟩
      · have H := (bindAll_iff hs hg hrg).1 hr
        refine ⟨H.srt, H.old, fun y hy => ?_, fun n hn => ?_⟩
        · rcases List.mem_cons.1 hy with rfl | hy
          · exact H.old _ _ hl
          · exact H.new y hy
        · rcases H.only n hn with h | ⟨y, hy, e⟩
          · exact Or.inl h
          · exact Or.inr ⟨y, List.mem_cons_of_mem _ hy, e⟩
      · have hs' := insB_srt (v := x.2) hs hl
        have hg' : ∀ y ∈ insB b x.1 x.2, y.2.Good := fun y hy => by
          rcases insB_mem.1 hy with rfl | hy
          · exact hxg
          · exact hg y hy
        have H := (bindAll_iff hs' hg' hrg).1 hr
        have hlk := ins_look (v := x.2) hs hl
        refine ⟨H.srt, fun n u hn => H.old n u ?_, fun y hy => ?_, fun n hn => ?_⟩
        · rw [hlk, if_neg (fun e => by rw [e, hl] at hn; cases hn)]; exact hn
        · rcases List.mem_cons.1 hy with rfl | hy
          · exact H.old _ _ (by rw [hlk, if_pos rfl])
          · exact H.new y hy
        · rcases H.only n hn with h | ⟨y, hy, e⟩
          · rw [hlk] at h
            by_cases e : n = x.1
            · exact Or.inr ⟨x, by simp, e.symm⟩
            · rw [if_neg e] at h; exact Or.inl h
          · exact Or.inr ⟨y, List.mem_cons_of_mem _ hy, e⟩
    · intro H
      have hc := H.new x (by simp)
      cases hl : lookB b x.1 with
      | some u =>
        have e := H.old _ _ hl
        rw [hc] at e
        cases e
        refine ⟨b, (bindB_some hs hg hxg).2 (Or.inl ⟨hl, rfl⟩), (bindAll_iff hs hg hrg).2 ⟨H.srt, H.old, fun y hy => H.new y (List.mem_cons_of_mem _ hy), fun n hn => ?_⟩⟩
        rcases H.only n hn with h | ⟨y, hy, e⟩
        · exact Or.inl h
        · rcases List.mem_cons.1 hy with rfl | hy
          · exact Or.inl (by rw [← e, hl]; simp)
          · exact Or.inr ⟨y, hy, e⟩
      | none =>
        have hs' := insB_srt (v := x.2) hs hl
        have hlk := ins_look (v := x.2) hs hl
        have hg' : ∀ y ∈ insB b x.1 x.2, y.2.Good := fun y hy => by
          rcases insB_mem.1 hy with rfl | hy
          · exact hxg
          · exact hg y hy
        refine ⟨insB b x.1 x.2, (bindB_some hs hg hxg).2 (Or.inr ⟨hl, rfl⟩), (bindAll_iff hs' hg' hrg).2 ⟨H.srt, fun n u hn => ?_, fun y hy => H.new y (List.mem_cons_of_mem _ hy), fun n hn => ?_⟩⟩
        · rw [hlk] at hn
          by_cases e : n = x.1
          · rw [if_pos e] at hn; cases hn; rw [e]; exact hc
          · rw [if_neg e] at hn; exact H.old n u hn
        · rcases H.only n hn with h | ⟨y, hy, e⟩
          · refine Or.inl ?_
            rw [hlk]
            split
            · simp
            · exact h
          · rcases List.mem_cons.1 hy with rfl | hy
            · exact Or.inl (by rw [hlk, if_pos e.symm]; simp)
            · exact Or.inr ⟨y, hy, e⟩

mutual
def decT : Tm → Tm → Option (Bd × Ops)
  | .mk k n s us, v => if k = 3 then some ([(s, v)], [])
    else if k = 5 ∨ k = 6 then some ([], [(.mk k n s us, v)])
    else if k = v.kind ∧ n = v.num ∧ s = v.name then decL us v.args else none
def decL : List Tm → List Tm → Option (Bd × Ops)
  | [], [] => some ([], [])
  | p :: ps, v :: vs => (decT p v).bind fun x => (decL ps vs).map fun y => (x.1 ++ y.1, x.2 ++ y.2)
  | [], _ :: _ => none
  | _ :: _, [] => none
end
mutual
theorem fitT_dec : ∀ (p v : Tm) (b : Bd) (o : Ops), fitT p v (b, o) = (decT p v).bind fun x => (bindAll b x.1).map fun b' => (b', o ++ x.2)
  | .mk k n s us, v, b, o => by
    simp only [fitT, decT]
    split
    · simp only [Option.bind_some, bindAll, List.append_nil]
      cases bindB b s v <;> rfl
    · split
      · rfl
      · split
        · exact fitL_dec us v.args b o
        · rfl
theorem fitL_dec : ∀ (ps vs : List Tm) (b : Bd) (o : Ops), fitL ps vs (b, o) = (decL ps vs).bind fun x => (bindAll b x.1).map fun b' => (b', o ++ x.2)
  | [], [], b, o => by simp only [fitL, decL, Option.bind_some, bindAll, Option.map_some, List.append_nil]
  | p :: ps, v :: vs, b, o => by
    simp only [fitL, decL, fitT_dec p v b o]
    cases decT p v with
    | none => rfl
    | some x =>
      simp only [Option.bind_some]
      cases hb : bindAll b x.1 with
      | none =>
        simp only [Option.map_none, Option.bind_none]
        cases decL ps vs with
        | none => rfl
        | some y => simp only [Option.map_some, Option.bind_some, bindAll_append, hb, Option.bind_none, Option.map_none]
      | some b' =>
        simp only [Option.map_some, Option.bind_some, fitL_dec ps vs b' (o ++ x.2)]
        cases decL ps vs with
        | none => rfl
        | some y => simp only [Option.map_some, Option.bind_some, bindAll_append, hb, List.append_assoc]
  | [], _ :: _, _, _ => rfl
  | _ :: _, [], _, _ => rfl
end
mutual
theorem decT_vals : ∀ (p v : Tm) {xs : Bd} {os : Ops}, decT p v = some (xs, os) → v.flatB = true → v.okB = true → p.okB = true → ∀ x ∈ xs, x.2.flatB = true ∧ x.2.okB = true ∧ variableB x.1 = true
  | .mk k n s us, v, xs, os, h, hf, ho, hp => by
    simp only [decT] at h
    simp only [Tm.okB, Bool.and_eq_true] at hp
    split at h
    · rename_i h3
      cases h
      intro x hx
      obtain rfl := List.mem_singleton.1 hx
      exact ⟨hf, ho, nreq_three (h3 ▸ hp.1)⟩
    · split at h
      · cases h; intro x hx; cases hx
      · split at h
        · obtain ⟨k3, n3, s3, us3⟩ := v
          simp only [Tm.flatB, Tm.okB, Bool.and_eq_true] at hf ho
          exact decL_vals us us3 h hf.2 ho.2 hp.2
        · cases h
theorem decL_vals : ∀ (ps vs : List Tm) {xs : Bd} {os : Ops}, decL ps vs = some (xs, os) → Tm.flatBL vs = true → Tm.okBL vs = true → Tm.okBL ps = true → ∀ x ∈ xs, x.2.flatB = true ∧ x.2.okB = true ∧ variableB x.1 = true
  | [], [], xs, os, h, _, _, _ => by
    simp only [decL, Option.some.injEq, Prod.mk.injEq] at h
    obtain ⟨rfl, _⟩ := h
    intro x hx; cases hx
  | p :: ps, v :: vs, xs, os, h, hf, ho, hp => by
    simp only [decL, Option.bind_eq_some_iff, Option.map_eq_some_iff] at h
    obtain ⟨⟨x1, o1⟩, h1, ⟨x2, o2⟩, h2, e⟩ := h
    cases e
    simp only [Tm.flatBL, Tm.okBL, Bool.and_eq_true] at hf ho hp
    intro x hx
    rcases List.mem_append.1 hx with hx | hx
    · exact decT_vals p v h1 hf.1 ho.1 hp.1 x hx
    · exact decL_vals ps vs h2 hf.2 ho.2 hp.2 x hx
  | [], _ :: _, _, _, h, _, _, _ => by simp [decL] at h
  | _ :: _, [], _, _, h, _, _, _ => by simp [decL] at h
end
theorem match_iff {ps vs : List Tm} {b c : Bd} : matchL ps vs b = some c ↔ validBd b = true ∧ ps.all Tm.validB = true ∧ vs.all Tm.valueB = true ∧ ∃ xs os, decL ps vs = some (xs, os) ∧ bindAll b xs = some c ∧ os.all (fun x => expandsB c x.1 x.2) = true := by
  unfold matchL
  by_cases hv : (validBd b && (ps.all Tm.validB && vs.all Tm.valueB)) = true
  · rw [if_pos hv]
    simp only [Bool.and_eq_true] at hv
    rw [fitL_dec]
    cases hd : decL ps vs with
    | none => simp
    | some x =>
      simp only [Option.bind_some]
      cases hb : bindAll b x.1 with
      | none =>
        simp only [Option.map_none, Option.bind_none]
        constructor
        · intro h; cases h
        · rintro ⟨_, _, _, xs, os, e, h, _⟩
          cases e
          rw [hb] at h; cases h
      | some b' =>
        simp only [Option.map_some, Option.bind_some, List.nil_append]
        constructor
        · intro h
          split at h
          · rename_i ha
            cases h
            exact ⟨hv.1, hv.2.1, hv.2.2, x.1, x.2, rfl, hb, ha⟩
          · cases h
        · rintro ⟨_, _, _, xs, os, e, h, ha⟩
          cases e
          rw [hb] at h
          cases h
          rw [if_pos ha]
  · rw [if_neg hv]
    constructor
    · intro h; cases h
    · rintro ⟨h1, h2, h3, _⟩
      exact absurd (by rw [h1, h2, h3]; rfl) hv
theorem okBL_all : ∀ {ts : List Tm}, ts.all Tm.validB = true → Tm.okBL ts = true
  | [], _ => rfl
  | t :: ts, h => by
    simp only [List.all_cons, Bool.and_eq_true] at h
    simp only [Tm.okBL, Bool.and_eq_true]
    exact ⟨valid_ok h.1, okBL_all h.2⟩
theorem valuesL : ∀ {ts : List Tm}, ts.all Tm.valueB = true → Tm.flatBL ts = true ∧ Tm.okBL ts = true
  | [], _ => ⟨rfl, rfl⟩
  | t :: ts, h => by
    simp only [List.all_cons, Bool.and_eq_true] at h
    have h1 := value_parts h.1
    have h2 := valuesL h.2
    simp only [Tm.flatBL, Tm.okBL, Bool.and_eq_true]
    exact ⟨⟨h1.2, h2.1⟩, h1.1, h2.2⟩
theorem match_holds {ps vs : List Tm} {b c : Bd} (h : matchL ps vs b = some c) : validBd b = true ∧ ps.all Tm.validB = true ∧ vs.all Tm.valueB = true ∧ ∃ xs os, decL ps vs = some (xs, os) ∧ Holds b xs c ∧ os.all (fun x => expandsB c x.1 x.2) = true ∧ (∀ x ∈ xs, x.2.flatB = true ∧ x.2.okB = true ∧ variableB x.1 = true) := by
  obtain ⟨h1, h2, h3, xs, os, hd, hb, ha⟩ := match_iff.1 h
  have hv := valuesL h3
  have hx := decL_vals ps vs hd hv.1 hv.2 (okBL_all h2)
  exact ⟨h1, h2, h3, xs, os, hd, (bindAll_iff (valid_spec h1).1 (fun x hx => value_good ((valid_spec h1).2 x hx).2) (fun x hx' => flat_good _ (hx x hx').1)).1 hb, ha, hx⟩
theorem match_of {ps vs : List Tm} {b c : Bd} {xs : Bd} {os : Ops} (h1 : validBd b = true) (h2 : ps.all Tm.validB = true) (h3 : vs.all Tm.valueB = true) (hd : decL ps vs = some (xs, os)) (hc : Holds b xs c) (ha : os.all (fun x => expandsB c x.1 x.2) = true) : matchL ps vs b = some c := by
  have hv := valuesL h3
  have hx := decL_vals ps vs hd hv.1 hv.2 (okBL_all h2)
  exact match_iff.2 ⟨h1, h2, h3, xs, os, hd, (bindAll_iff (valid_spec h1).1 (fun x hx => value_good ((valid_spec h1).2 x hx).2) (fun x hx' => flat_good _ (hx x hx').1)).2 hc, ha⟩
end Go.Proofs.YtaacmdjaaeacfaaGreatDoor
namespace Go.Proofs.YtaacmdjaaeacfaaGreatDoor
open Go.RowKit Go.Shelf

mutual
def outerT : Tm → List ByteArray
  | .mk k _ s us => if k = 5 ∨ k = 6 then [] else (if k = 3 then [s] else []) ++ outerL us
def outerL : List Tm → List ByteArray
  | [] => []
  | t :: ts => outerT t ++ outerL ts
end
theorem outerL_snoc : ∀ (ts : List Tm) (t : Tm), outerL (ts ++ [t]) = outerL ts ++ outerT t
  | [], t => by simp [outerL]
  | a :: ts, t => by simp only [List.cons_append, outerL, outerL_snoc ts t, List.append_assoc]
theorem nreq_args3 {n : Int} {s : ByteArray} {m : Nat} (h : reqB 3 n s m = true) : m = 0 := by
  unfold reqB at h
  simp at h
  exact h.1.2
mutual
theorem dec_outer : ∀ (p v : Tm) {xs : Bd} {os : Ops}, decT p v = some (xs, os) → p.okB = true → xs.map (·.1) = outerT p
  | .mk k n s us, v, xs, os, h, hp => by
    simp only [decT] at h
    simp only [Tm.okB, Bool.and_eq_true] at hp
    simp only [outerT]
    split at h
    · rename_i h3
      cases h
      subst h3
      have : us = [] := List.length_eq_zero_iff.1 (nreq_args3 hp.1)
      subst this
      simp [outerL]
    · rename_i h3
      split at h
      · rename_i h56
        cases h
        rw [if_pos h56]; rfl
      · rename_i h56
        rw [if_neg h56, if_neg h3, List.nil_append]
        split at h
        · exact dec_outerL us v.args h hp.2
        · cases h
theorem dec_outerL : ∀ (ps vs : List Tm) {xs : Bd} {os : Ops}, decL ps vs = some (xs, os) → Tm.okBL ps = true → xs.map (·.1) = outerL ps
  | [], [], xs, os, h, _ => by
    simp only [decL, Option.some.injEq, Prod.mk.injEq] at h
    obtain ⟨rfl, _⟩ := h
    rfl
  | p :: ps, v :: vs, xs, os, h, hp => by
    simp only [decL, Option.bind_eq_some_iff, Option.map_eq_some_iff] at h
    obtain ⟨⟨x1, o1⟩, h1, ⟨x2, o2⟩, h2, e⟩ := h
    cases e
    simp only [Tm.okBL, Bool.and_eq_true] at hp
    simp only [List.map_append, outerL, dec_outer p v h1 hp.1, dec_outerL ps vs h2 hp.2]
  | [], _ :: _, _, _, h, _ => by simp [decL] at h
  | _ :: _, [], _, _, h, _ => by simp [decL] at h
end
theorem nreq_kind {k n : Int} {s : ByteArray} {m : Nat} (h : reqB k n s m = true) : 1 ≤ k ∧ k ≤ 6 := by
  unfold reqB at h
  split at h
  · omega
  · split at h
    · omega
    · split at h
      · omega
      · split at h
        · omega
        · split at h
          · omega
          · split at h
            · omega
            · cases h
mutual
theorem ok_good : ∀ t : Tm, t.okB = true → t.Good
  | .mk k n s us, h => by
    simp only [Tm.okB, Bool.and_eq_true] at h
    simp only [Tm.Good]
    exact ⟨by have := nreq_kind h.1; omega, ok_goodL us h.2⟩
theorem ok_goodL : ∀ ts : List Tm, Tm.okBL ts = true → Tm.GoodL ts
  | [], _ => by simp only [Tm.GoodL]
  | t :: ts, h => by
    simp only [Tm.okBL, Bool.and_eq_true] at h
    simp only [Tm.GoodL]
    exact ⟨ok_good t h.1, ok_goodL ts h.2⟩
end
mutual
theorem apply_good {c : Bd} (hc : ∀ x ∈ c, x.2.Good) : ∀ t : Tm, t.Good → (applyT c t).Good
  | .mk k n s us, h => by
    simp only [Tm.Good] at h
    by_cases h3 : k = 3
    · cases hl : lookB c s with
      | some v => simp only [applyT, if_pos h3, hl]; exact hc _ (look_mem hl)
      | none => simp only [applyT, if_pos h3, hl, Tm.Good]; exact ⟨h.1, apply_goodL hc us h.2⟩
    · simp only [applyT, if_neg h3, Tm.Good]; exact ⟨h.1, apply_goodL hc us h.2⟩
theorem apply_goodL {c : Bd} (hc : ∀ x ∈ c, x.2.Good) : ∀ ts : List Tm, Tm.GoodL ts → Tm.GoodL (applyTL c ts)
  | [], _ => by simp only [applyTL, Tm.GoodL]
  | t :: ts, h => by
    simp only [Tm.GoodL] at h
    simp only [applyTL, Tm.GoodL]
    exact ⟨apply_good hc t h.1, apply_goodL hc ts h.2⟩
end
theorem combos_good : ∀ (ls : List (List Tm)), (∀ l ∈ ls, ∀ x ∈ l, x.Good) → ∀ c ∈ combos ls, Tm.GoodL c
  | [], _, c, hc => by
    simp only [combos, List.mem_singleton] at hc
    subst hc
    simp only [Tm.GoodL]
  | l :: ls, h, c, hc => by
    simp only [combos, List.mem_flatMap, List.mem_map] at hc
    obtain ⟨x, hx, c', hc', rfl⟩ := hc
    simp only [Tm.GoodL]
    exact ⟨h l (by simp) x hx, combos_good ls (fun l' hl' => h l' (List.mem_cons_of_mem _ hl')) c' hc'⟩
theorem numT_good (z : Int) : (numT z).Good := by
  unfold numT
  simp only [Tm.Good, Tm.GoodL]
  exact ⟨by decide, trivial⟩
mutual
theorem exp_good : ∀ (t : Tm), t.Good → ∀ l, t.exp = some l → ∀ x ∈ l, x.Good
  | .mk k n s us, hg, l, h, x, hx => by
    simp only [Tm.Good] at hg
    simp only [Tm.exp] at h
    split at h
    · simp only [Option.bind_eq_some_iff] at h
      obtain ⟨ls, hls, h⟩ := h
      split at h
      · cases h
        obtain ⟨c, hc, rfl⟩ := List.mem_map.1 hx
        simp only [Tm.Good]
        exact ⟨by decide, combos_good ls (exp_goodL us hg.2 ls hls) c hc⟩
      · cases h
    · split at h
      · simp only [Option.bind_eq_some_iff] at h
        obtain ⟨ls, hls, h⟩ := h
        split at h
        · cases h
        · split at h
          · cases h
            obtain ⟨z, _, rfl⟩ := List.mem_map.1 hx
            exact numT_good z
          · cases h
      · split at h
        · simp only [Option.bind_eq_some_iff] at h
          obtain ⟨ls, hls, h⟩ := h
          split at h
          · split at h
            · cases h
              obtain ⟨z, _, rfl⟩ := List.mem_map.1 hx
              exact numT_good z
            · cases h
          · cases h; cases hx
        · cases h
          obtain rfl := List.mem_singleton.1 hx
          simp only [Tm.Good, Tm.GoodL]
          exact ⟨hg.1, trivial⟩
theorem exp_goodL : ∀ (ts : List Tm), Tm.GoodL ts → ∀ ls, Tm.expL ts = some ls → ∀ l ∈ ls, ∀ x ∈ l, x.Good
  | [], _, ls, h => by
    simp only [Tm.expL, Option.some.injEq] at h
    subst h
    intro l hl; cases hl
  | t :: ts, hg, ls, h => by
    simp only [Tm.GoodL] at hg
    simp only [Tm.expL, Option.bind_eq_some_iff, Option.some.injEq] at h
    obtain ⟨l0, h0, ls', h1, rfl⟩ := h
    intro l hl
    rcases List.mem_cons.1 hl with rfl | hl
    · exact exp_good t hg.1 _ h0
    · exact exp_goodL ts hg.2 ls' h1 l hl
end
theorem flat_cases {k n : Int} {s : ByteArray} {us : List Tm} (hf : (Tm.mk k n s us).flatB = true) (ho : (Tm.mk k n s us).okB = true) : (k = 4 ∧ n = 0) ∨ (k ≠ 4 ∧ (k = 1 ∨ k = 2) ∧ us = []) := by
  simp only [Tm.flatB, Tm.okB, Bool.and_eq_true, Bool.or_eq_true, decide_eq_true_eq] at hf ho
  by_cases h4 : k = 4
  · subst h4
    exact Or.inl ⟨rfl, nreq_four ho.1⟩
  · exact Or.inr ⟨h4, by omega, List.length_eq_zero_iff.1 (nreq_leaf ho.1 (by omega) h4 (by omega) (by omega)).2⟩
mutual
theorem val_exp : ∀ (v : Tm), v.flatB = true → v.okB = true → ∀ l, v.exp = some l → l = [v]
  | .mk k n s us, hf, ho, l, h => by
    rcases flat_cases hf ho with ⟨rfl, rfl⟩ | ⟨h4, hk, rfl⟩
    · simp only [Tm.flatB, Tm.okB, Bool.and_eq_true] at hf ho
      simp only [Tm.exp, if_true, Option.bind_eq_some_iff] at h
      obtain ⟨ls, hls, h⟩ := h
      split at h
      · cases h
        rw [val_expL us hf.2 ho.2 ls hls]
        rfl
      · cases h
    · simp only [Tm.exp, if_neg h4, if_neg (show ¬ k = 5 by omega), if_neg (show ¬ k = 6 by omega), Option.some.injEq] at h
      exact h.symm
theorem val_expL : ∀ (vs : List Tm), Tm.flatBL vs = true → Tm.okBL vs = true → ∀ ls, Tm.expL vs = some ls → combos ls = [vs]
  | [], _, _, ls, h => by
    simp only [Tm.expL, Option.some.injEq] at h
    subst h
    rfl
  | v :: vs, hf, ho, ls, h => by
    simp only [Tm.flatBL, Tm.okBL, Bool.and_eq_true] at hf ho
    simp only [Tm.expL, Option.bind_eq_some_iff, Option.some.injEq] at h
    obtain ⟨l0, h0, ls', h1, rfl⟩ := h
    rw [val_exp v hf.1 ho.1 l0 h0]
    simp only [combos, val_expL vs hf.2 ho.2 ls' h1]
    rfl
end
theorem found_mem {L : List Tm} {v : Tm} (hL : ∀ x ∈ L, x.Good) (hv : v.Good) (h : foundT L v = true) : v ∈ L := by
  unfold foundT at h
  obtain ⟨x, hx, he⟩ := List.any_eq_true.1 h
  rw [beq_iff_eq, cmp_zero x v (hL x hx) hv] at he
  rw [← he]; exact hx
theorem expands_spec {c : Bd} {p v : Tm} (hc : ∀ x ∈ c, x.2.Good) (hp : p.Good) (hv : v.Good) (h : expandsB c p v = true) : (applyT c p).closedB = true ∧ ∃ l, (applyT c p).exp = some l ∧ v ∈ l := by
  unfold expandsB expOf at h
  by_cases hvg : ((applyT c p).validB && (applyT c p).groundB) = true
  · rw [if_pos hvg] at h
    rw [Bool.and_eq_true] at hvg
    refine ⟨by rw [← ground_closed]; exact hvg.2, ?_⟩
    cases he : (applyT c p).exp with
    | none => rw [he] at h; cases h
    | some l =>
      rw [he] at h
      exact ⟨l, rfl, found_mem (exp_good _ (apply_good hc p hp) l he) hv h⟩
  · rw [if_neg hvg] at h
    cases h
mutual
theorem sound_dec {c : Bd} (hc : ∀ x ∈ c, x.2.Good) : ∀ (p v : Tm) {xs : Bd} {os : Ops}, decT p v = some (xs, os) → p.okB = true → v.flatB = true → v.okB = true → (∀ x ∈ xs, lookB c x.1 = some x.2) → (∀ x ∈ os, expandsB c x.1 x.2 = true) →
    (applyT c p).closedB = true ∧ ∀ l, (applyT c p).exp = some l → v ∈ l
  | .mk k n s us, v, xs, os, h, hp, hf, ho, hx, hos => by
    have hp0 := hp
    simp only [decT] at h
    simp only [Tm.okB, Bool.and_eq_true] at hp
    split at h
    · rename_i h3
      cases h
      have hl := hx (s, v) (by simp)
      have e : applyT c (.mk k n s us) = v := by simp only [applyT, if_pos h3, hl]
      rw [e]
      exact ⟨flat_closed v hf, fun l he => by rw [val_exp v hf ho l he]; simp⟩
    · rename_i h3
      split at h
      · cases h
        have := expands_spec hc (ok_good _ hp0) (flat_good v hf) (hos (.mk k n s us, v) (by simp))
        obtain ⟨h1, l, h2, h4⟩ := this
        exact ⟨h1, fun l' hl' => by rw [h2] at hl'; cases hl'; exact h4⟩
      · rename_i h56
        split at h
        · rename_i hkv
          obtain ⟨k3, n3, s3, us3⟩ := v
          obtain ⟨e1, e2, e3⟩ := hkv
          simp only [Tm.kind, Tm.num, Tm.name] at e1 e2 e3
          subst e1 e2 e3
          have hv := flat_cases hf ho
          simp only [Tm.flatB, Tm.okB, Bool.and_eq_true] at hf ho
          have ih := sound_decL hc us us3 h hp.2 hf.2 ho.2 hx hos
          have e : applyT c (.mk k n s us) = .mk k n s (applyTL c us) := by simp only [applyT, if_neg h3]
          rw [e]
          refine ⟨by simp only [Tm.closedB, Bool.and_eq_true, Bool.not_eq_true', decide_eq_false_iff_not]; exact ⟨h3, ih.1⟩, fun l hl => ?_⟩
          rcases hv with ⟨rfl, rfl⟩ | ⟨h4, hk, rfl⟩
          · simp only [Tm.exp, if_true, Option.bind_eq_some_iff] at hl
            obtain ⟨ls, hls, hl⟩ := hl
            split at hl
            · cases hl
              exact List.mem_map.2 ⟨us3, ih.2 ls hls, rfl⟩
            · cases hl
          · have hus : us = [] := List.length_eq_zero_iff.1 (nreq_leaf hp.1 h3 h4 (by omega) (by omega)).2
            subst hus
            simp only [applyTL, Tm.exp, if_neg h4, if_neg (show ¬ k = 5 by omega), if_neg (show ¬ k = 6 by omega), Option.some.injEq] at hl
            rw [← hl]; simp
        · cases h
theorem sound_decL {c : Bd} (hc : ∀ x ∈ c, x.2.Good) : ∀ (ps vs : List Tm) {xs : Bd} {os : Ops}, decL ps vs = some (xs, os) → Tm.okBL ps = true → Tm.flatBL vs = true → Tm.okBL vs = true → (∀ x ∈ xs, lookB c x.1 = some x.2) → (∀ x ∈ os, expandsB c x.1 x.2 = true) →
    Tm.closedBL (applyTL c ps) = true ∧ ∀ ls, Tm.expL (applyTL c ps) = some ls → vs ∈ combos ls
  | [], [], xs, os, _, _, _, _, _, _ => by
    refine ⟨rfl, fun ls h => ?_⟩
    simp only [applyTL, Tm.expL, Option.some.injEq] at h
    subst h
    simp [combos]
  | p :: ps, v :: vs, xs, os, h, hp, hf, ho, hx, hos => by
    simp only [decL, Option.bind_eq_some_iff, Option.map_eq_some_iff] at h
    obtain ⟨⟨x1, o1⟩, h1, ⟨x2, o2⟩, h2, e⟩ := h
    cases e
    simp only [Tm.okBL, Tm.flatBL, Bool.and_eq_true] at hp hf ho
    have i1 := sound_dec hc p v h1 hp.1 hf.1 ho.1 (fun x hxm => hx x (List.mem_append_left _ hxm)) (fun x hxm => hos x (List.mem_append_left _ hxm))
    have i2 := sound_decL hc ps vs h2 hp.2 hf.2 ho.2 (fun x hxm => hx x (List.mem_append_right _ hxm)) (fun x hxm => hos x (List.mem_append_right _ hxm))
    refine ⟨by simp only [applyTL, Tm.closedBL, i1.1, i2.1, Bool.and_self], fun ls hls => ?_⟩
    simp only [applyTL, Tm.expL, Option.bind_eq_some_iff, Option.some.injEq] at hls
    obtain ⟨l0, h0, ls', h3, rfl⟩ := hls
    simp only [combos, List.mem_flatMap, List.mem_map]
    exact ⟨v, i1.2 l0 h0, vs, i2.2 ls' h3, rfl⟩
  | [], _ :: _, _, _, h, _, _, _, _, _ => by simp [decL] at h
  | _ :: _, [], _, _, h, _, _, _, _, _ => by simp [decL] at h
end
mutual
theorem nodes_depth : ∀ (t : Tm) (p : Nat), (t.nodes p).all nodeOkB = true → t.depth + p ≤ 13
  | .mk k n s us, p, h => by
    simp only [Tm.nodes, List.all_cons, Bool.and_eq_true] at h
    have h1 := h.1
    unfold nodeOkB at h1
    rw [Bool.and_eq_true, decide_eq_true_eq] at h1
    have h2 := nodesL_depth us (p + 1) h.2
    have h3 : p ≤ 12 := h1.1
    simp only [Tm.depth]
    omega
theorem nodesL_depth : ∀ (ts : List Tm) (p : Nat), (Tm.nodesL p ts).all nodeOkB = true → Tm.depthL ts = 0 ∨ Tm.depthL ts + p ≤ 13
  | [], _, _ => Or.inl rfl
  | t :: ts, p, h => by
    simp only [Tm.nodesL, List.all_append, Bool.and_eq_true] at h
    have h1 := nodes_depth t p h.1
    have h2 := nodesL_depth ts p h.2
    simp only [Tm.depthL]
    omega
end
mutual
theorem nodes_of : ∀ (t : Tm) (p : Nat), t.okB = true → t.depth + p ≤ 13 → (t.nodes p).all nodeOkB = true
  | .mk k n s us, p, ho, hd => by
    simp only [Tm.okB, Bool.and_eq_true] at ho
    simp only [Tm.depth] at hd
    simp only [Tm.nodes, List.all_cons, Bool.and_eq_true]
    refine ⟨?_, nodesL_of us (p + 1) ho.2 (by omega)⟩
    unfold nodeOkB
    rw [Bool.and_eq_true, decide_eq_true_eq]
    exact ⟨show p ≤ 12 by omega, ho.1⟩
theorem nodesL_of : ∀ (ts : List Tm) (p : Nat), Tm.okBL ts = true → Tm.depthL ts + p ≤ 13 → (Tm.nodesL p ts).all nodeOkB = true
  | [], _, _, _ => rfl
  | t :: ts, p, ho, hd => by
    simp only [Tm.okBL, Bool.and_eq_true] at ho
    simp only [Tm.depthL] at hd
    simp only [Tm.nodesL, List.all_append, Bool.and_eq_true]
    exact ⟨nodes_of t p ho.1 (by omega), nodesL_of ts p ho.2 (by omega)⟩
end
theorem value_of {t : Tm} (h1 : t.okB = true) (h2 : t.flatB = true) (h3 : t.depth ≤ 12) : t.valueB = true := by
  unfold Tm.valueB Tm.validB
  rw [Bool.and_eq_true]
  exact ⟨nodes_of t 1 h1 (by omega), (nodes_flat t 1).trans h2⟩
mutual
theorem dec_depth : ∀ (p v : Tm) {xs : Bd} {os : Ops}, decT p v = some (xs, os) → ∀ x ∈ xs, x.2.depth ≤ v.depth
  | .mk k n s us, v, xs, os, h => by
    simp only [decT] at h
    split at h
    · cases h
      intro x hx
      obtain rfl := List.mem_singleton.1 hx
      exact Nat.le_refl _
    · split at h
      · cases h; intro x hx; cases hx
      · split at h
        · obtain ⟨k3, n3, s3, us3⟩ := v
          intro x hx
          have := dec_depthL us us3 h x hx
          simp only [Tm.depth]; omega
        · cases h
theorem dec_depthL : ∀ (ps vs : List Tm) {xs : Bd} {os : Ops}, decL ps vs = some (xs, os) → ∀ x ∈ xs, x.2.depth ≤ Tm.depthL vs
  | [], [], xs, os, h => by
    simp only [decL, Option.some.injEq, Prod.mk.injEq] at h
    obtain ⟨rfl, _⟩ := h
    intro x hx; cases hx
  | p :: ps, v :: vs, xs, os, h => by
    simp only [decL, Option.bind_eq_some_iff, Option.map_eq_some_iff] at h
    obtain ⟨⟨x1, o1⟩, h1, ⟨x2, o2⟩, h2, e⟩ := h
    cases e
    intro x hx
    simp only [Tm.depthL]
    rcases List.mem_append.1 hx with hx | hx
    · have := dec_depth p v h1 x hx; omega
    · have := dec_depthL ps vs h2 x hx; omega
  | [], _ :: _, _, _, h => by simp [decL] at h
  | _ :: _, [], _, _, h => by simp [decL] at h
end
theorem dec_one {p v : Tm} {xs : Bd} {os : Ops} (hd : decL [p] [v] = some (xs, os)) : decT p v = some (xs, os) := by
  simp only [decL, Option.bind_eq_some_iff, Option.map_eq_some_iff] at hd
  obtain ⟨⟨x1, o1⟩, h1, ⟨x2, o2⟩, h2, e⟩ := hd
  simp only [Option.some.injEq, Prod.mk.injEq] at h2
  obtain ⟨rfl, rfl⟩ := h2
  simp only [List.append_nil, Prod.mk.injEq] at e
  obtain ⟨rfl, rfl⟩ := e
  exact h1
theorem ext_of {b c : Bd} (hb : Srt b) (hg : ∀ x ∈ b, x.2.Good) (h : ∀ n u, lookB b n = some u → lookB c n = some u) : b.all (extB c) = true := by
  refine List.all_eq_true.2 fun x hx => ?_
  have := h _ _ (look_srt hb hx)
  unfold extB getT
  rw [this]
  simp only [Option.isSome_some, Option.getD_some, Bool.true_and, beq_iff_eq]
  exact (cmp_zero _ _ (hg x hx) (hg x hx)).2 rfl
theorem match_sound {p v : Tm} {b c : Bd} (h : matchL [p] [v] b = some c) : validBd b = true ∧ validBd c = true ∧ b.all (extB c) = true ∧ p.validB = true ∧ v.valueB = true ∧ (∀ x ∈ c, (lookB b x.1).isSome = true ∨ x.1 ∈ outerT p) ∧ (∀ n ∈ outerT p, (lookB c n).isSome = true) ∧
    matchL [p] [v] c = some c ∧ (applyT c p).groundB = true ∧ ∀ l, (applyT c p).exp = some l → v ∈ l := by
  obtain ⟨h1, h2, h3, xs, os, hd, hc, ha, hx⟩ := match_holds h
  have hp : p.validB = true := by simpa using h2
  have hv : v.valueB = true := by simpa using h3
  obtain ⟨hvo, hvf⟩ := value_parts hv
  have hdt := dec_one hd
  have hvd : v.depth ≤ 12 := by
    unfold Tm.valueB at hv
    rw [Bool.and_eq_true] at hv
    have := nodes_depth v 1 hv.1
    omega
  have hb := valid_spec h1
  have hmem : ∀ x ∈ c, x ∈ b ∨ x ∈ xs := fun x hxc => by
    have hl := look_srt hc.srt hxc
    rcases hc.only x.1 (by rw [hl]; simp) with h | ⟨y, hy, e⟩
    · cases hlb : lookB b x.1 with
      | none => exact absurd hlb h
      | some u =>
        have := hc.old _ _ hlb
        rw [hl] at this
        have e2 := Option.some.inj this
        have : (x.1, u) ∈ b := look_mem hlb
        rw [← e2] at this
        exact Or.inl this
    · have := hc.new y hy
      rw [e, hl] at this
      have e2 := Option.some.inj this
      have : y = x := by cases x; cases y; simp only at e e2; rw [e, e2]
      exact Or.inr (this ▸ hy)
  have hcv : ∀ x ∈ c, variableB x.1 = true ∧ x.2.valueB = true := fun x hxc => by
    rcases hmem x hxc with h | h
    · exact hb.2 x h
    · obtain ⟨h4, h5, h6⟩ := hx x h
      exact ⟨h6, value_of h5 h4 (by have := dec_depth p v hdt x h; omega)⟩
  have hcg : ∀ x ∈ c, x.2.Good := fun x hxc => value_good (hcv x hxc).2
  have hvc : validBd c = true := valid_of hc.srt hcv
  have hou := dec_outer p v hdt (valid_ok hp)
  have hsd := sound_dec hcg p v hdt (valid_ok hp) hvf hvo hc.new (fun x hxo => List.all_eq_true.1 ha x hxo)
  refine ⟨h1, hvc, ext_of hb.1 (fun x hxb => value_good (hb.2 x hxb).2) hc.old, hp, hv, fun x hxc => ?_, fun n hn => ?_, ?_, by rw [ground_closed]; exact hsd.1, hsd.2⟩
  · rcases hmem x hxc with h | h
    · exact Or.inl (by rw [look_srt hb.1 h]; rfl)
    · refine Or.inr ?_
      rw [← hou]
      exact List.mem_map.2 ⟨x, h, rfl⟩
  · rw [← hou] at hn
    obtain ⟨x, hxm, rfl⟩ := List.mem_map.1 hn
    rw [hc.new x hxm]; rfl
  · exact match_of hvc h2 h3 hd ⟨hc.srt, fun _ _ h => h, hc.new, fun _ h => Or.inl h⟩ ha
end Go.Proofs.YtaacmdjaaeacfaaGreatDoor
namespace Go.Proofs.YtaacmdjaaeacfaaGreatDoor
open Go.RowKit Go.Shelf
attribute [local go_sem] Oper.semAt_some

theorem info_string07 : (Tryz.prog.info? 9).map (fun i => (i.zero, i.size, i.bytes)) = some (some (.string ⟨#[]⟩), 1, 16) := by kernel_rfl
def OutAt (t : Tm) : Prop := ∀ (c0 c1 c2 c3 : Value) (w : World), IsTm w.heap.size w c0 c1 c2 c3 t → t.count ≤ 1000000 → Calls Tryz.prog 14 #[.agg #[c0, c1, c2, c3]] w fun e w' => ∃ v, e = .returned v ∧ StrsV w.heap.size w' v (outerT t) ∧ Below w.heap.size w w'
mutual
theorem outerT_len : ∀ t : Tm, (outerT t).length ≤ t.count
  | .mk k n s us => by
    simp only [outerT, Tm.count]
    have := outerL_len us
    split
    · simp
    · split <;> simp <;> omega
theorem outerL_len : ∀ ts : List Tm, (outerL ts).length ≤ Tm.countL ts
  | [] => by simp [outerL]
  | t :: ts => by
    simp only [outerL, Tm.countL, List.length_append]
    have := outerT_len t
    have := outerL_len ts
    omega
end
theorem StrsV.low {base base' : Nat} {w : World} {v : Value} {l : List ByteArray} (h : StrsV base w v l) (hb : base' ≤ base) : StrsV base' w v l := by
  refine ⟨⟨h.1.1, h.1.2.imp id ?_⟩, h.2⟩
  rintro ⟨g, cap, cur, e, q1, q2⟩
  exact ⟨g, cap, cur, e, Nat.le_trans hb q1, q2⟩
theorem countL_pre : ∀ (ts : List Tm) (j : Nat), Tm.countL (ts.take j) ≤ Tm.countL ts
  | [], j => by simp
  | t :: ts, 0 => by simp [Tm.countL]
  | t :: ts, j + 1 => by
    have := countL_pre ts j
    simp only [List.take_succ_cons, Tm.countL]
    omega
set_option maxRecDepth 100000 in
set_option maxHeartbeats 16000000 in
theorem outer07_any (t : Tm) : OutAt t := by
  induction t using Tm.ind with
  | h k n s us ih =>
    intro c0 c1 c2 c3 w h hc
    simp only [IsTm] at h
    obtain ⟨rfl, _, rfl, _, rfl, _, a, cap, rfl, hl, hr⟩ := h
    simp only [Tm.count] at hc
    obtain ⟨W1, hW1, hq, hb1, hz1⟩ := rowTerm w (.int .u8 k) (.int .i64 n) (.string s) (.slice a us.length cap)
    have q0 := cells_at hq 0 _ rfl
    have q2 := cells_at hq 2 _ rfl
    have q3 := cells_at hq 3 _ rfl
    have HQ := Lib.hid hq
    have HB1 := Lib.hid hb1
    have HZ1 := Lib.hid hz1
    have HR := Lib.hid hr
    have HIH := Lib.hid ih
    have HC := Lib.hid hc
    have hlen : us.length ≤ 9223372036854775807 := by unfold maxLen at hl; exact hl
    obtain ⟨i0, hi, hz0, hzz1, hz2⟩ := info_parts info_string07
    clear hq hb1 hz1 hr ih hc hl
    go_enter Tryz.func14, Tryz.ntmps14
    by_cases h5 : k = 5
    · subst h5
      go_wp2
      go_ret
      exact ⟨_, rfl, by simpa [outerT] using StrsV.nil _ _, HB1.out⟩
    · by_cases h6 : k = 6
      · subst h6
        go_wp2
        go_ret
        exact ⟨_, rfl, by simpa [outerT] using StrsV.nil _ _, HB1.out⟩
      · have b5 : (k == 5) = false := by simpa using h5
        have b6 : (k == 6) = false := by simpa using h6
        have HT := Lib.hid (show outerT (.mk k n s us) = (if k = 3 then [s] else []) ++ outerL us by simp [outerT, h5, h6])
        obtain ⟨L0, hL0⟩ : ∃ L0, (if k = 3 then [s] else []) = L0 := ⟨_, rfl⟩
        rw [hL0] at HT
        have hL1 : L0.length ≤ 1 := by rw [← hL0]; split <;> simp
        have HL1 := Lib.hid hL1
        clear h5 h6 hL1
        by_cases h3 : k = 3
        · subst h3
          rw [if_pos rfl] at hL0
          go_wp2_with (at_builtin; refine wpList_append_own_at _ rfl _ _ 34 rfl W1.heap.size 9 i0 _ 1 16 Tryz.underlying34 hi hz0 hzz1 hz2 rfl (by decide) (.slice none 0 0) 0 [] rfl (World.ownsRow_nil _ _ _ _) ⟨W1.heap.size, 0, none⟩ 1 1 [.string s] rfl rfl ?c1 ?c2 ?c3 ?c4 ?c5 ?_)
          case c1 =>
            intro jj u' hu'
            cases jj with
            | zero => cases hu'; exact cells_at (World.alloc_heap_new W1 (.cells #[.string s] 9)) 0 _ rfl
            | succ jj => simp at hu'
          case c2 => simp [Value.oneCell']
          case c3 => unfold maxLen; omega
          case c4 => omega
          case c5 => simp
          intro v' Wa hown' hgrow hne hat
          obtain ⟨b1, b2, b3, rfl⟩ := ownSlice hown'
          have hba : Below W1.heap.size W1 Wa := ((Below.refl _ W1).alloc (Nat.le_refl _) (.cells #[.string s] 9)).grown hgrow (by simp) (fun k e => by cases e)
          have HV0 := Lib.hid (show StrsV W1.heap.size Wa (.slice b1 b2 b3) L0 by rw [← hL0]; exact ⟨hown', fun e => by cases e⟩)
          have HBa := Lib.hid hba
          clear hown' hgrow hba hne hat hL0
          try simp only [Act.put, List.setIfInBounds_toArray, List.set_cons_succ, List.set_cons_zero]
          go_wp2
          go_loopw [3, 4] (fun v i wr => ∃ j : Nat, j ≤ us.length ∧ i = .int .i64 j ∧ StrsV W1.heap.size wr v (L0 ++ outerL (us.take j)) ∧ Below W1.heap.size W1 wr) (fun _ i _ => us.length - (intOf i).toNat)
          case atStart => exact ⟨0, Nat.zero_le _, rfl, by simpa [outerL] using HV0.out, HBa.out⟩
          case round =>
            obtain ⟨j, hj, rfl, hV, hB⟩ := hrel
            have hq1 := (hB.block w.heap.size (gL HQ.out)).trans HQ.out
            have q3 := cells_at hq1 3 _ rfl
            have HB := Lib.hid hB
            have HV := Lib.hid hV
            clear hq1 hB
            by_cases hlt : j < us.length
            · obtain ⟨g, off, rfl, hg, hi'⟩ := HR.out (by intro e; rw [e] at hlt; simp at hlt)
              have hB0 : Below w.heap.size w wr := HB1.out.trans (HB.out.mono HB1.out.size)
              obtain ⟨x0, x1, x2, x3, y0, y1, y2, y3, ht⟩ := (hi'.below hB0 hg).at j hlt
              have HI := Lib.hid (HIH.out us[j] (List.getElem_mem hlt) x0 x1 x2 x3 wr (ht.mono hB0.size) (by have := HC.out; have := count_mem (List.getElem_mem hlt); omega))
              have htk : outerL (us.take (j + 1)) = outerL (us.take j) ++ outerT us[j] := by rw [List.take_succ_eq_append_getElem hlt, outerL_snoc]
              have hsz : (L0 ++ outerL (us.take j)).length + (outerT us[j]).length ≤ 2000000 := by
                have h1 := outerL_len us
                have h2 := HC.out
                have h3 := HL1.out
                have h4 := outerL_len (us.take (j + 1))
                rw [htk] at h4
                have h5 : Tm.countL (us.take (j + 1)) ≤ Tm.countL us := countL_pre us (j + 1)
                simp only [List.length_append] at h4 ⊢
                omega
              obtain ⟨O, hO⟩ : ∃ O, outerT us[j] = O := ⟨_, rfl⟩
              rw [hO] at HI htk hsz
              have HTK := Lib.hid htk
              obtain ⟨Q, hQ⟩ : ∃ Q, L0 ++ outerL (us.take j) = Q := ⟨_, rfl⟩
              rw [hQ] at HV hV hsz
              have HQQ := Lib.hid hQ
              have HSZ := Lib.hid hsz
              have i1 : (0 : Int) ≤ (j : Int) := by omega
              have i2 : (j : Int) < (us.length : Int) := by omega
              obtain ⟨hown0, hnil0⟩ := hV
              have HOW := Lib.hid hown0
              obtain ⟨va, vn, vc, rfl⟩ := ownSlice hown0
              clear hi' hB0 ht htk hO hQ hsz hown0 hnil0
              by_cases hoe : O = []
              · subst hoe
                go_wp2_with (first
                  | (at_builtin; refine wpList_append_own_none rfl _ _ 34 rfl W1.heap.size 9 i0 1 Tryz.underlying34 hi (.slice va vn vc) _ _ rfl (own_grown HOW.out HB5.out) rfl ?_)
                  | (go_at_call 14; refine HI.out.mono ?_; clear HI; rintro e w5 ⟨v5, rfl, hs5, hb5⟩; obtain rfl := hs5.2 rfl; have HB5 := Lib.hid hb5; clear hs5 hb5))
                try simp only [Act.put, List.setIfInBounds_toArray, List.set_cons_succ, List.set_cons_zero]
                go_wp2
                go_roundw
                case rel => exact ⟨j + 1, by omega, by go_num, by rw [HTK.out, List.append_nil, HQQ.out]; exact HV.out.grow HB5.out, HB.out.trans (HB5.out.mono HB.out.size)⟩
                case measure => simp [intOf]; omega
              · go_wp2_with (first
                  | (at_builtin; refine wpList_append_own_at _ rfl _ _ 34 rfl W1.heap.size 9 i0 _ 1 16 Tryz.underlying34 hi hz0 hzz1 hz2 rfl (by decide) (.slice va vn vc) Q.length (Q.map Value.string) rfl (own_grown HOW.out HB5.out) ⟨g5, 0, none⟩ O.length cap5 (O.map Value.string) rfl (by simp) ?c1 ?c2 ?c3 ?c4 ?c5 ?_)
                  | (go_at_call 14; refine HI.out.mono ?_; clear HI; rintro e w5 ⟨v5, rfl, hs5, hb5⟩
                     have hs50 := hs5.1
                     obtain ⟨_, ⟨_, h0⟩ | ⟨g5, cap5, cur5, rfl, _⟩⟩ := hs50
                     · exact absurd (List.length_eq_zero_iff.1 h0) hoe
                     have HS5 := Lib.hid hs5.1
                     have HB5 := Lib.hid hb5
                     clear hs5 hb5))
                case c1 =>
                  intro jj u' hu'
                  exact HS5.out.cells (g := g5) rfl jj u' hu'
                case c2 =>
                  intro u hu
                  obtain ⟨x, _, rfl⟩ := List.mem_map.1 hu
                  rfl
                case c3 => have := HSZ.out; unfold maxLen; omega
                case c4 => have := HSZ.out; omega
                case c5 => have := HB.out.size; have := HB5.out.size; omega
                intro v' w' hown' hgrow _ _
                obtain ⟨b1, b2, b3, rfl⟩ := ownSlice hown'
                have hB' : Below W1.heap.size W1 w' := (HB.out.trans (HB5.out.mono HB.out.size)).grown hgrow (by have := HB.out.size; have := HB5.out.size; omega) (fun k e => (HOW.out.lt k e).1)
                have HB' := Lib.hid hB'
                have HOWN := Lib.hid hown'
                clear hown' hgrow hB'
                try simp only [Act.put, List.setIfInBounds_toArray, List.set_cons_succ, List.set_cons_zero]
                go_wp2
                go_roundw
                case rel => exact ⟨j + 1, by omega, by go_num, by rw [HTK.out, ← List.append_assoc, HQQ.out]; exact ⟨by rw [List.length_append, List.map_append]; exact HOWN.out, fun e => absurd (List.append_eq_nil_iff.1 e).2 hoe⟩, HB'.out⟩
                case measure => simp [intOf]; omega
            · have i2 : ¬ (j : Int) < (us.length : Int) := by omega
              rw [List.take_of_length_le (by omega)] at hV
              obtain ⟨va, vn, vc, rfl⟩ := ownSlice hV.1
              have HV := Lib.hid hV
              clear hV
              go_wp2
              go_ret
              exact ⟨_, rfl, by rw [HT.out]; exact HV.out.low HB1.out.size, HB1.out.trans (HB.out.mono HB1.out.size)⟩
        · have b3 : (k == 3) = false := by simpa using h3
          rw [if_neg h3] at hL0
          have HV0 := Lib.hid (show StrsV W1.heap.size W1 (.slice none 0 0) L0 by rw [← hL0]; exact StrsV.nil _ _)
          have HBa := Lib.hid (Below.refl W1.heap.size W1)
          clear h3 hL0
          go_wp2
          go_loopw [3, 4] (fun v i wr => ∃ j : Nat, j ≤ us.length ∧ i = .int .i64 j ∧ StrsV W1.heap.size wr v (L0 ++ outerL (us.take j)) ∧ Below W1.heap.size W1 wr) (fun _ i _ => us.length - (intOf i).toNat)
          case atStart => exact ⟨0, Nat.zero_le _, rfl, by simpa [outerL] using HV0.out, HBa.out⟩
          case round =>
            obtain ⟨j, hj, rfl, hV, hB⟩ := hrel
            have hq1 := (hB.block w.heap.size (gL HQ.out)).trans HQ.out
            have q3 := cells_at hq1 3 _ rfl
            have HB := Lib.hid hB
            have HV := Lib.hid hV
            clear hq1 hB
            by_cases hlt : j < us.length
            · obtain ⟨g, off, rfl, hg, hi'⟩ := HR.out (by intro e; rw [e] at hlt; simp at hlt)
              have hB0 : Below w.heap.size w wr := HB1.out.trans (HB.out.mono HB1.out.size)
              obtain ⟨x0, x1, x2, x3, y0, y1, y2, y3, ht⟩ := (hi'.below hB0 hg).at j hlt
              have HI := Lib.hid (HIH.out us[j] (List.getElem_mem hlt) x0 x1 x2 x3 wr (ht.mono hB0.size) (by have := HC.out; have := count_mem (List.getElem_mem hlt); omega))
              have htk : outerL (us.take (j + 1)) = outerL (us.take j) ++ outerT us[j] := by rw [List.take_succ_eq_append_getElem hlt, outerL_snoc]
              have hsz : (L0 ++ outerL (us.take j)).length + (outerT us[j]).length ≤ 2000000 := by
                have h1 := outerL_len us
                have h2 := HC.out
                have h3 := HL1.out
                have h4 := outerL_len (us.take (j + 1))
                rw [htk] at h4
                have h5 : Tm.countL (us.take (j + 1)) ≤ Tm.countL us := countL_pre us (j + 1)
                simp only [List.length_append] at h4 ⊢
                omega
              obtain ⟨O, hO⟩ : ∃ O, outerT us[j] = O := ⟨_, rfl⟩
              rw [hO] at HI htk hsz
              have HTK := Lib.hid htk
              obtain ⟨Q, hQ⟩ : ∃ Q, L0 ++ outerL (us.take j) = Q := ⟨_, rfl⟩
              rw [hQ] at HV hV hsz
              have HQQ := Lib.hid hQ
              have HSZ := Lib.hid hsz
              have i1 : (0 : Int) ≤ (j : Int) := by omega
              have i2 : (j : Int) < (us.length : Int) := by omega
              obtain ⟨hown0, hnil0⟩ := hV
              have HOW := Lib.hid hown0
              obtain ⟨va, vn, vc, rfl⟩ := ownSlice hown0
              clear hi' hB0 ht htk hO hQ hsz hown0 hnil0
              by_cases hoe : O = []
              · subst hoe
                go_wp2_with (first
                  | (at_builtin; refine wpList_append_own_none rfl _ _ 34 rfl W1.heap.size 9 i0 1 Tryz.underlying34 hi (.slice va vn vc) _ _ rfl (own_grown HOW.out HB5.out) rfl ?_)
                  | (go_at_call 14; refine HI.out.mono ?_; clear HI; rintro e w5 ⟨v5, rfl, hs5, hb5⟩; obtain rfl := hs5.2 rfl; have HB5 := Lib.hid hb5; clear hs5 hb5))
                try simp only [Act.put, List.setIfInBounds_toArray, List.set_cons_succ, List.set_cons_zero]
                go_wp2
                go_roundw
                case rel => exact ⟨j + 1, by omega, by go_num, by rw [HTK.out, List.append_nil, HQQ.out]; exact HV.out.grow HB5.out, HB.out.trans (HB5.out.mono HB.out.size)⟩
                case measure => simp [intOf]; omega
              · go_wp2_with (first
                  | (at_builtin; refine wpList_append_own_at _ rfl _ _ 34 rfl W1.heap.size 9 i0 _ 1 16 Tryz.underlying34 hi hz0 hzz1 hz2 rfl (by decide) (.slice va vn vc) Q.length (Q.map Value.string) rfl (own_grown HOW.out HB5.out) ⟨g5, 0, none⟩ O.length cap5 (O.map Value.string) rfl (by simp) ?c1 ?c2 ?c3 ?c4 ?c5 ?_)
                  | (go_at_call 14; refine HI.out.mono ?_; clear HI; rintro e w5 ⟨v5, rfl, hs5, hb5⟩
                     have hs50 := hs5.1
                     obtain ⟨_, ⟨_, h0⟩ | ⟨g5, cap5, cur5, rfl, _⟩⟩ := hs50
                     · exact absurd (List.length_eq_zero_iff.1 h0) hoe
                     have HS5 := Lib.hid hs5.1
                     have HB5 := Lib.hid hb5
                     clear hs5 hb5))
                case c1 =>
                  intro jj u' hu'
                  exact HS5.out.cells (g := g5) rfl jj u' hu'
                case c2 =>
                  intro u hu
                  obtain ⟨x, _, rfl⟩ := List.mem_map.1 hu
                  rfl
                case c3 => have := HSZ.out; unfold maxLen; omega
                case c4 => have := HSZ.out; omega
                case c5 => have := HB.out.size; have := HB5.out.size; omega
                intro v' w' hown' hgrow _ _
                obtain ⟨b1, b2, b3, rfl⟩ := ownSlice hown'
                have hB' : Below W1.heap.size W1 w' := (HB.out.trans (HB5.out.mono HB.out.size)).grown hgrow (by have := HB.out.size; have := HB5.out.size; omega) (fun k e => (HOW.out.lt k e).1)
                have HB' := Lib.hid hB'
                have HOWN := Lib.hid hown'
                clear hown' hgrow hB'
                try simp only [Act.put, List.setIfInBounds_toArray, List.set_cons_succ, List.set_cons_zero]
                go_wp2
                go_roundw
                case rel => exact ⟨j + 1, by omega, by go_num, by rw [HTK.out, ← List.append_assoc, HQQ.out]; exact ⟨by rw [List.length_append, List.map_append]; exact HOWN.out, fun e => absurd (List.append_eq_nil_iff.1 e).2 hoe⟩, HB'.out⟩
                case measure => simp [intOf]; omega
            · have i2 : ¬ (j : Int) < (us.length : Int) := by omega
              rw [List.take_of_length_le (by omega)] at hV
              obtain ⟨va, vn, vc, rfl⟩ := ownSlice hV.1
              have HV := Lib.hid hV
              clear hV
              go_wp2
              go_ret
              exact ⟨_, rfl, by rw [HT.out]; exact HV.out.low HB1.out.size, HB1.out.trans (HB.out.mono HB1.out.size)⟩

def hasL (l : List ByteArray) (s : ByteArray) : Bool := l.any fun x => decide (x = s)
theorem hasL_iff {l : List ByteArray} {s : ByteArray} : hasL l s = true ↔ s ∈ l := by
  unfold hasL
  rw [List.any_eq_true]
  constructor
  · rintro ⟨x, hx, h⟩; rw [← of_decide_eq_true h]; exact hx
  · intro h; exact ⟨s, h, decide_eq_true rfl⟩
theorem hasL_no {l : List ByteArray} {s : ByteArray} (h : s ∉ l) : hasL l s = false := by
  cases e : hasL l s with
  | false => rfl
  | true => exact absurd (hasL_iff.1 e) h
set_option maxRecDepth 100000 in
set_option maxHeartbeats 8000000 in
theorem has07_any (l : List ByteArray) (s : ByteArray) (v : Value) (w : World) (hv : StrsAt w v l) :
    Calls Tryz.prog 16 #[v, .string s] w fun e w' => e = .returned (.bool (hasL l s)) ∧ Below w.heap.size w w' := by
  obtain ⟨a, cap, rfl, hl, hr⟩ := hv
  have HR := Lib.hid hr
  have hlen : l.length ≤ 9223372036854775807 := by unfold maxLen at hl; exact hl
  clear hr hl
  go_enter Tryz.func16, Tryz.ntmps16
  go_wp2
  go_loop [5] (fun i => ∃ j : Nat, j ≤ l.length ∧ i = .int .i64 j ∧ s ∉ l.take j) (fun i => l.length - (intOf i).toNat)
  case atStart => exact ⟨0, Nat.zero_le _, rfl, by simp⟩
  case round =>
    obtain ⟨j, hj, rfl, hno⟩ := hrel
    have HNO := Lib.hid hno
    clear hno
    by_cases hlt : j < l.length
    · obtain ⟨g, off, rfl, hcell⟩ := HR.out (by intro e; rw [e] at hlt; simp at hlt)
      have g0 := hcell j l[j] (List.getElem?_eq_getElem hlt)
      obtain ⟨x, hx⟩ : ∃ x, l[j] = x := ⟨_, rfl⟩
      rw [hx] at g0
      have htk := List.take_succ_eq_append_getElem hlt
      rw [hx] at htk
      have HTK := Lib.hid htk
      have HX := Lib.hid hx
      have HLT := Lib.hid hlt
      have i1 : (0 : Int) ≤ (j : Int) := by omega
      have i2 : (j : Int) < (l.length : Int) := by omega
      obtain ⟨E, hE⟩ : ∃ E, (x.toList == s.toList) = E := ⟨_, rfl⟩
      have HE := Lib.hid hE
      clear hcell htk hx
      cases E with
      | true =>
        go_wp2
        go_ret
        have hxs : x = s := str_inj.1 (by simpa using HE.out)
        refine ⟨?_, Below.refl _ _⟩
        rw [hasL_iff.2 (by rw [← hxs, ← HX.out]; exact List.getElem_mem _)]
        rfl
      | false =>
        go_wp2
        go_round
        case rel =>
          refine ⟨j + 1, by omega, by go_num, ?_⟩
          rw [HTK.out, List.mem_append, List.mem_singleton]
          rintro (h | h)
          · exact HNO.out h
          · rw [← h] at HE
            have := HE.out
            simp at this
        case measure => simp [intOf]; omega
    · have i2 : ¬ (j : Int) < (l.length : Int) := by omega
      have hno := HNO.out
      rw [List.take_of_length_le (by omega)] at hno
      have HN := Lib.hid (show hasL l s = false from hasL_no hno)
      clear hno
      go_wp2
      go_ret
      exact ⟨by rw [HN.out]; rfl, Below.refl _ _⟩
end Go.Proofs.YtaacmdjaaeacfaaGreatDoor
namespace Go.Proofs.YtaacmdjaaeacfaaGreatDoor
open Go.RowKit Go.Shelf
attribute [local go_sem] Oper.semAt_some

theorem found_snoc (ts : List Tm) (t v : Tm) : foundT (ts ++ [t]) v = (foundT ts v || (Tm.cmp t v == 0)) := by
  unfold foundT
  simp
set_option maxRecDepth 100000 in
set_option maxHeartbeats 8000000 in
theorem among07_any (ts : List Tm) (v : Tm) (lv c0 c1 c2 c3 : Value) (w : World) (hl : RowV w lv ts) (hv : IsTm w.heap.size w c0 c1 c2 c3 v) :
    Calls Tryz.prog 21 #[lv, .agg #[c0, c1, c2, c3]] w fun e w' => e = .returned (.bool (foundT ts v)) ∧ Below w.heap.size w w' := by
  obtain ⟨a, cap, rfl, hlen, hr⟩ := hl
  have hv0 := hv
  obtain ⟨kv, nv, sv, vs⟩ := v
  simp only [IsTm] at hv
  obtain ⟨rfl, _, rfl, _, rfl, _, va, vc, rfl, _, _⟩ := hv
  obtain ⟨W1, hW1, hq, hb1, hz1⟩ := rowTerm w (.int .u8 kv) (.int .i64 nv) (.string sv) (.slice va vs.length vc)
  have HV := Lib.hid ((hv0.below hb1).mono hb1.size)
  have HQ := Lib.hid hq
  have HB1 := Lib.hid hb1
  have HR := Lib.hid hr
  have hlen2 : ts.length ≤ 9223372036854775807 := by unfold maxLen at hlen; exact hlen
  obtain ⟨ln, hln⟩ : ∃ ln, vs.length = ln := ⟨_, rfl⟩
  rw [hln] at hW1 HV HQ
  obtain ⟨V, hVV⟩ : ∃ V, Tm.mk kv nv sv vs = V := ⟨_, rfl⟩
  rw [hVV] at HV ⊢
  clear hr hlen hv0 hq hb1 hz1 hVV
  rw [hln]
  clear hln
  go_enter Tryz.func21, Tryz.ntmps21
  go_wp2
  go_loopw [5] (fun i wr => ∃ j : Nat, j ≤ ts.length ∧ i = .int .i64 j ∧ foundT (ts.take j) V = false ∧ Below W1.heap.size W1 wr) (fun i _ => ts.length - (intOf i).toNat)
  case atStart => exact ⟨0, Nat.zero_le _, rfl, rfl, Below.refl _ _⟩
  case round =>
    obtain ⟨j, hj, rfl, hno, hB⟩ := hrel
    have hq1 := (hB.block w.heap.size (gL HQ.out)).trans HQ.out
    have q0 := cells_at hq1 0 _ rfl
    have q1 := cells_at hq1 1 _ rfl
    have q2 := cells_at hq1 2 _ rfl
    have q3 := cells_at hq1 3 _ rfl
    have HB := Lib.hid hB
    have HNO := Lib.hid hno
    clear hq1 hno
    by_cases hlt : j < ts.length
    · obtain ⟨g, off, rfl, hg, hi⟩ := HR.out (by intro e; rw [e] at hlt; simp at hlt)
      have hB0 : Below w.heap.size w wr := HB1.out.trans (hB.mono HB1.out.size)
      obtain ⟨x0, x1, x2, x3, y0, y1, y2, y3, ht⟩ := (hi.below hB0 hg).at j hlt
      have ht := ht.mono hB0.size
      have htk := List.take_succ_eq_append_getElem hlt
      obtain ⟨u, hu⟩ : ∃ u, ts[j] = u := ⟨_, rfl⟩
      rw [hu] at ht htk
      have HTK := Lib.hid htk
      have HU := Lib.hid hu
      have hv1 := (HV.out.below hB).mono hB.size
      have ht0 := ht
      obtain ⟨ku, nu, su, uu⟩ := u
      simp only [IsTm] at ht
      obtain ⟨rfl, _, rfl, _, rfl, _, ua, uc, rfl, _, _⟩ := ht
      have hd : Below wr.heap.size wr wr.drew := (Below.refl _ wr).drew
      have HE := Lib.hid (equal_any (Tm.mk ku nu su uu) V _ _ _ _ _ _ _ _ wr.drew (ht0.below hd) (hv1.below hd))
      obtain ⟨E, hE⟩ : ∃ E, (Tm.cmp (Tm.mk ku nu su uu) V == 0) = E := ⟨_, rfl⟩
      rw [hE] at HE
      have HEE := Lib.hid hE
      have HD := Lib.hid hd
      have HLT := Lib.hid hlt
      have i1 : (0 : Int) ≤ (j : Int) := by omega
      have i2 : (j : Int) < (ts.length : Int) := by omega
      clear hi hB0 htk hu hv1 ht0 hd hE hB hg
      cases E with
      | true =>
        go_wp2_with fail
        go_still_tail 5, (by kernel_rfl)
        change wpList _ _ _ _ _ wr.drew
        go_wp2_with (go_at_call 28; refine HE.out.mono ?_; clear HE; rintro e w5 ⟨rfl, hb5⟩; have HB5 := Lib.hid (HB.out.trans ((HD.out.trans (hb5.mono (Nat.le_refl _))).mono HB.out.size)); clear hb5)
        go_ret
        refine ⟨?_, HB1.out.trans (HB5.out.mono HB1.out.size)⟩
        have hf : foundT ts V = true := by
          unfold foundT
          rw [List.any_eq_true]
          exact ⟨_, HU.out ▸ List.getElem_mem HLT.out, HEE.out⟩
        rw [hf]
        rfl
      | false =>
        go_wp2_with fail
        go_still_tail 5, (by kernel_rfl)
        change wpList _ _ _ _ _ wr.drew
        go_wp2_with (go_at_call 28; refine HE.out.mono ?_; clear HE; rintro e w5 ⟨rfl, hb5⟩; have HB5 := Lib.hid (HB.out.trans ((HD.out.trans (hb5.mono (Nat.le_refl _))).mono HB.out.size)); clear hb5)
        go_roundw
        case rel => exact ⟨j + 1, by omega, by go_num, by rw [HTK.out, found_snoc, HNO.out, HEE.out]; rfl, HB5.out⟩
        case measure => simp [intOf]; omega
    · have i2 : ¬ (j : Int) < (ts.length : Int) := by omega
      have hno := HNO.out
      rw [List.take_of_length_le (by omega)] at hno
      have HN := Lib.hid hno
      clear hno hB
      go_wp2
      go_ret
      exact ⟨by rw [HN.out]; rfl, HB1.out.trans (HB.out.mono HB1.out.size)⟩
end Go.Proofs.YtaacmdjaaeacfaaGreatDoor
namespace Go.Proofs.YtaacmdjaaeacfaaGreatDoor
open Go.RowKit Go.Shelf
attribute [local go_sem] Oper.semAt_some

theorem match_bounds {p v : Tm} {b c : Bd} {D : Nat} (h : matchL [p] [v] b = some c) (hb : ∀ x ∈ b, x.2.count ≤ D) (hp : p.count ≤ D) (hv : v.count ≤ D) : c.length ≤ b.length + p.count ∧ ∀ x ∈ c, x.2.count ≤ D := by
  unfold matchL at h
  split at h
  · rename_i hvl
    rw [Bool.and_eq_true] at hvl
    rw [Option.bind_eq_some_iff] at h
    obtain ⟨⟨c', os⟩, hf, h⟩ := h
    split at h
    · cases h
      have h1 := fitL_srt [p] [v] (valid_spec hvl.1).1 hf
      have h2 := fitL_vals [p] [v] (D := D) hb (fun x hx => by cases hx) (by simp only [Tm.countL]; omega) (by simp only [Tm.countL]; omega) hf
      refine ⟨by have := h1.2.1; simp only [Tm.countL] at this; omega, h2.1⟩
    · cases h
  · cases h
theorem cell_alloc10 {W : World} {g o : Nat} {u : Value} (x : Obj) (h : W.cell? ⟨g, o, none⟩ = some u) : (W.alloc x).cell? ⟨g, o, none⟩ = some u := ((Below.refl _ W).alloc (Nat.le_refl _) x).cell (p := ⟨g, o, none⟩) (block_lt h) |>.trans h
set_option maxRecDepth 100000 in
set_option maxHeartbeats 40000000 in
theorem sound_walk (p v : Tm) (b : Bd) (c0 c1 c2 c3 d0 d1 d2 d3 bv : Value) (w : World) (hp : IsTm w.heap.size w c0 c1 c2 c3 p) (hv : IsTm w.heap.size w d0 d1 d2 d3 v) (hb : BdV w bv b) :
    Calls Tryz.prog 3 #[.agg #[c0, c1, c2, c3], .agg #[d0, d1, d2, d3], bv] w fun e w' => e = .returned (.bool true) ∧ Below w.heap.size w w' := by
  obtain ⟨kp, np, sp, ap, lp, cp, rfl, rfl, rfl, rfl⟩ := isTm_cells hp
  obtain ⟨kv, nv, sv, av, lv, cv, rfl, rfl, rfl, rfl⟩ := isTm_cells hv
  obtain ⟨W0, hW0⟩ : ∃ W0, (w.alloc (.cells #[.int .u8 kp, .int .i64 np, .string sp, .slice ap lp cp] 24)).alloc (.cells #[.int .u8 kv, .int .i64 nv, .string sv, .slice av lv cv] 24) = W0 := ⟨_, rfl⟩
  have hb0 : Below w.heap.size w W0 := by rw [← hW0]; exact ((Below.refl _ w).alloc (Nat.le_refl _) _).alloc (by simp) _
  have hz0 : W0.heap.size = w.heap.size + 2 := by rw [← hW0]; simp
  have hq3 : W0.heap[w.heap.size]? = some (.cells #[.int .u8 kp, .int .i64 np, .string sp, .slice ap lp cp] 24 (0, 0)) := by
    rw [← hW0]; exact (Below.heap_alloc _ _ _ (by simp)).trans (World.alloc_heap_new _ _)
  have hq4 : W0.heap[w.heap.size + 1]? = some (.cells #[.int .u8 kv, .int .i64 nv, .string sv, .slice av lv cv] 24 (0, 0)) := by
    rw [← hW0]; have := World.alloc_heap_new (w.alloc (.cells #[.int .u8 kp, .int .i64 np, .string sp, .slice ap lp cp] 24)) (.cells #[.int .u8 kv, .int .i64 nv, .string sv, .slice av lv cv] 24); rwa [World.size_alloc] at this
  have HTP := Lib.hid (fun (W : World) (hW : Below W0.heap.size W0 W) => show IsTm W.heap.size W _ _ _ _ p from (hp.below (hb0.trans (hW.mono hb0.size))).mono (Nat.le_trans hb0.size hW.size))
  have HTV := Lib.hid (fun (W : World) (hW : Below W0.heap.size W0 W) => show IsTm W.heap.size W _ _ _ _ v from (hv.below (hb0.trans (hW.mono hb0.size))).mono (Nat.le_trans hb0.size hW.size))
  have HBV := Lib.hid (fun (W : World) (hW : Below W0.heap.size W0 W) => hb.grow (hb0.trans (hW.mono hb0.size)))
  have HSB := Lib.hid hb.names
  have HQ3 := Lib.hid hq3
  have HQ4 := Lib.hid hq4
  have HZ0 := Lib.hid hz0
  have HB0 := Lib.hid hb0
  obtain ⟨ba, bn, bc, rfl⟩ : ∃ a n c, bv = .slice a n c := by obtain ⟨a, c, e, _⟩ := hb; exact ⟨_, _, _, e⟩
  obtain rfl : bn = b.length := by obtain ⟨a, c, e, _⟩ := hb; simp only [Value.slice.injEq] at e; exact e.2.1
  obtain ⟨lb, hlb⟩ : ∃ lb, b.length = lb := ⟨_, rfl⟩
  rw [hlb] at HBV HSB ⊢
  have HLB := Lib.hid hlb
  clear hp hv hb hq3 hq4 hz0 hb0 hlb
  go_enter Tryz.func3, Tryz.ntmps3
  go_wp2_with (first
    | (go_at_call 7; refine (awake07_any W0).mono ?_; rintro e V1 ⟨rfl, hb1⟩
       have HB1 := Lib.hid hb1
       have hq := (HB1.out.block (w.heap.size) (gL HQ3.out)).trans HQ3.out
       have x0 := cells_at hq 0 _ rfl
       have x1 := cells_at hq 1 _ rfl
       have x2 := cells_at hq 2 _ rfl
       have x3 := cells_at hq 3 _ rfl
       clear hq
       have hq := (HB1.out.block (w.heap.size + 1) (gL HQ4.out)).trans HQ4.out
       have y0 := cells_at hq 0 _ rfl
       have y1 := cells_at hq 1 _ rfl
       have y2 := cells_at hq 2 _ rfl
       have y3 := cells_at hq 3 _ rfl
       clear hq
       obtain ⟨S1, hS1, hrS, hbS⟩ : ∃ S1, V1.alloc (.cells #[.int .u8 kp, .int .i64 np, .string sp, .slice ap lp cp, .int .u8 kv, .int .i64 nv, .string sv, .slice av lv cv] 24) = S1 ∧ S1.heap[V1.heap.size]? = some (.cells #[.int .u8 kp, .int .i64 np, .string sp, .slice ap lp cp, .int .u8 kv, .int .i64 nv, .string sv, .slice av lv cv] 24 (0, 0)) ∧ Below V1.heap.size V1 S1 := ⟨_, rfl, World.alloc_heap_new _ _, bR.alloc (Nat.le_refl _) _⟩
       have HS1 := Lib.hid hS1
       have HRS := Lib.hid hrS
       have HBS := Lib.hid (hb1.trans (hbS.mono hb1.size))
       clear hb1 hS1 hrS hbS))
  rw [HS1.out]
  refine (small07_any b [p, v] _ (some ⟨V1.heap.size, 0, none⟩) 2 S1 (HBV.out S1 HBS.out) (by unfold maxLen; simp) (fun _ => ⟨V1.heap.size, 0, rfl, (gL HRS.out), ?_⟩)).mono ?_
  · simp only [IsTms]
    exact ⟨_, _, _, _, cells_at HRS.out 0 _ rfl, cells_at HRS.out 1 _ rfl, cells_at HRS.out 2 _ rfl, cells_at HRS.out 3 _ rfl, HTP.out S1 HBS.out, _, _, _, _, cells_at HRS.out 4 _ rfl, cells_at HRS.out 5 _ rfl, cells_at HRS.out 6 _ rfl, cells_at HRS.out 7 _ rfl, HTV.out S1 HBS.out, trivial⟩
  rintro e V2 ⟨hb2, r, rfl, hr⟩
  have HB2 := Lib.hid (HBS.out.trans (hb2.mono HBS.out.size))
  clear hb2
  cases r with
  | false =>
    clear hr
    go_wp2
    go_ret
    exact ⟨rfl, HB0.out.trans (HB2.out.mono HB0.out.size)⟩
  | true =>
  have hr := hr rfl
  have HR := Lib.hid hr
  clear hr
  by_cases hlen : 150 < lb
  · have d1 : decide ((lb : Int) > 150) = true := decide_eq_true (by omega)
    have d2 : (lb : Int) > 150 := by omega
    go_wp2
    go_ret
    exact ⟨rfl, HB0.out.trans (HB2.out.mono HB0.out.size)⟩
  · have d1 : decide ((lb : Int) > 150) = false := decide_eq_false (by omega)
    have d2 : ¬ (lb : Int) > 150 := by omega
    have HCP : Hid (p.count ≤ 150 ∧ v.count ≤ 150 ∧ ∀ x ∈ b, x.2.count ≤ 150) := Lib.hid (by
      have := HR.out
      simp only [Tm.countL] at this
      exact ⟨by omega, by omega, fun x hx => by have := sumB_mem hx; omega⟩)
    have HLN := Lib.hid (show lb ≤ 150 by omega)
    clear hlen
    have hq := (HB2.out.block (w.heap.size) (gL HQ3.out)).trans HQ3.out
    have x0 := cells_at hq 0 _ rfl
    have x1 := cells_at hq 1 _ rfl
    have x2 := cells_at hq 2 _ rfl
    have x3 := cells_at hq 3 _ rfl
    clear hq
    have hq := (HB2.out.block (w.heap.size + 1) (gL HQ4.out)).trans HQ4.out
    have y0 := cells_at hq 0 _ rfl
    have y1 := cells_at hq 1 _ rfl
    have y2 := cells_at hq 2 _ rfl
    have y3 := cells_at hq 3 _ rfl
    clear hq
    have HM := Lib.hid (match_any p v b _ _ _ _ _ _ _ _ _ V2 (HTP.out V2 HB2.out) (HTV.out V2 HB2.out) (HBV.out V2 HB2.out) (by rw [HLB.out]; have := HLN.out; omega) (fun x hx => by have := HCP.out.2.2 x hx; omega) HSB.out.2 (by have := HCP.out; omega) (by have := HCP.out; omega))
    cases hM : matchL [p] [v] b with
    | none =>
      rw [hM] at HM
      clear hM
      go_wp2_with (go_at_call 9; refine HM.out.mono ?_; clear HM; rintro e V3 ⟨hb3, rfl⟩; have HB3 := Lib.hid (HB2.out.trans (hb3.mono HB2.out.size)); clear hb3)
      go_ret
      exact ⟨rfl, HB0.out.trans (HB3.out.mono HB0.out.size)⟩
    | some c =>
    rw [hM] at HM
    obtain ⟨m1, m2, m3, m4, m5, m6, m7, m8, m9, m10⟩ := match_sound hM
    have hbd := match_bounds (D := 150) hM HCP.out.2.2 HCP.out.1 HCP.out.2.1
    have HSD := Lib.hid (And.intro m1 (And.intro m2 (And.intro m3 (And.intro m4 (And.intro m5 (And.intro m6 (And.intro m7 (And.intro m8 (And.intro m9 m10)))))))))
    have HCB := Lib.hid (show c.length ≤ 300 ∧ ∀ x ∈ c, x.2.count ≤ 150 from ⟨by have := hbd.1; rw [HLB.out] at this; have := HLN.out; have := HCP.out.1; omega, hbd.2⟩)
    have HPR := Lib.hid (show prs c = c by unfold prs; rw [if_pos m2])
    have HPB := Lib.hid (show prs b = b by unfold prs; rw [if_pos m1])
    clear m1 m2 m3 m4 m5 m6 m7 m8 m9 m10 hM hbd
    go_wp2_with (first
        | (go_at_call 14; have hgd := HB8.out; clear hgd; refine (outer07_any p _ _ _ _ V8 (HTP.out V8 HB8.out) (by have := HCP.out.1; omega)).mono ?_; rintro e V9 ⟨v9, rfl, hs9, hb⟩
           obtain ⟨oa, oc, rfl, hol, hor⟩ := hs9.at
           have HB9 := Lib.hid (HB8.out.trans (hb.mono HB8.out.size))
           have HC9 := Lib.hid (HC8.out.grow hb)
           have HS9 := Lib.hid hs9
           have HOR := Lib.hid hor
           have hol2 : (outerT p).length ≤ 9223372036854775807 := by unfold maxLen at hol; exact hol
           clear hb hs9 hol hor)
        | (go_at_call 13; have hgd := HB7.out; clear hgd; have hm := value_any v _ _ _ _ V7 (HTV.out V7 HB7.out) (by have := HCP.out.2.1; have := Tm.depth_le_count v; omega); rw [HSD.out.2.2.2.2.1] at hm; refine hm.mono ?_; clear hm; rintro e V8 ⟨rfl, hb⟩
           have HB8 := Lib.hid (HB7.out.trans (hb.mono HB7.out.size))
           have HC8 := Lib.hid (HC7.out.grow hb)
           clear hb
           have hq := (HB8.out.block (w.heap.size) (gL HQ3.out)).trans HQ3.out
           have x0 := cells_at hq 0 _ rfl
           have x1 := cells_at hq 1 _ rfl
           have x2 := cells_at hq 2 _ rfl
           have x3 := cells_at hq 3 _ rfl
           clear hq
           have hq := (HB8.out.block (w.heap.size + 1) (gL HQ4.out)).trans HQ4.out
           have y0 := cells_at hq 0 _ rfl
           have y1 := cells_at hq 1 _ rfl
           have y2 := cells_at hq 2 _ rfl
           have y3 := cells_at hq 3 _ rfl
           clear hq)
        | (go_at_call 12; have hgd := HB6.out; clear hgd; have hm := valid_any p _ _ _ _ V6 (HTP.out V6 HB6.out) (by have := HCP.out.1; have := Tm.depth_le_count p; omega); rw [HSD.out.2.2.2.1] at hm; refine hm.mono ?_; clear hm; rintro e V7 ⟨rfl, hb⟩
           have HB7 := Lib.hid (HB6.out.trans (hb.mono HB6.out.size))
           have HC7 := Lib.hid (HC6.out.grow hb)
           clear hb
           have hq := (HB7.out.block (w.heap.size) (gL HQ3.out)).trans HQ3.out
           have x0 := cells_at hq 0 _ rfl
           have x1 := cells_at hq 1 _ rfl
           have x2 := cells_at hq 2 _ rfl
           have x3 := cells_at hq 3 _ rfl
           clear hq
           have hq := (HB7.out.block (w.heap.size + 1) (gL HQ4.out)).trans HQ4.out
           have y0 := cells_at hq 0 _ rfl
           have y1 := cells_at hq 1 _ rfl
           have y2 := cells_at hq 2 _ rfl
           have y3 := cells_at hq 3 _ rfl
           clear hq)
        | (go_at_call 11; have hgd := HB5.out; clear hgd; have hm := extends_any c b _ _ V5 HC5.out (HBV.out V5 HB5.out) (by have := HCB.out.1; omega) (fun x hx => by have := HCB.out.2 x hx; omega) HCN.out; rw [HPR.out, HSD.out.2.2.1] at hm; refine hm.mono ?_; clear hm; rintro e V6 ⟨rfl, hb⟩
           have HB6 := Lib.hid (HB5.out.trans (hb.mono HB5.out.size))
           have HC6 := Lib.hid (HC5.out.grow hb)
           clear hb
           have hq := (HB6.out.block (w.heap.size) (gL HQ3.out)).trans HQ3.out
           have x0 := cells_at hq 0 _ rfl
           have x1 := cells_at hq 1 _ rfl
           have x2 := cells_at hq 2 _ rfl
           have x3 := cells_at hq 3 _ rfl
           clear hq
           have hq := (HB6.out.block (w.heap.size + 1) (gL HQ4.out)).trans HQ4.out
           have y0 := cells_at hq 0 _ rfl
           have y1 := cells_at hq 1 _ rfl
           have y2 := cells_at hq 2 _ rfl
           have y3 := cells_at hq 3 _ rfl
           clear hq)
        | (go_at_call 10; have hgd := HB4.out; clear hgd; have hm := validBd_any c _ V4 HC4.out (fun x hx => by have := HCB.out.2 x hx; have := Tm.depth_le_count x.2; omega) HCN.out; rw [HSD.out.2.1] at hm; refine hm.mono ?_; clear hm; rintro e V5 ⟨rfl, hb⟩
           have HB5 := Lib.hid (HB4.out.trans (hb.mono HB4.out.size))
           have HC5 := Lib.hid (HC4.out.grow hb)
           clear hb)
        | (go_at_call 10; have hgd := HB3.out; clear hgd; have hm := validBd_any b _ V3 (HBV.out V3 HB3.out) (fun x hx => by have := HCP.out.2.2 x hx; have := Tm.depth_le_count x.2; omega) HSB.out.2; rw [HSD.out.1] at hm; refine hm.mono ?_; clear hm; rintro e V4 ⟨rfl, hb⟩
           have HB4 := Lib.hid (HB3.out.trans (hb.mono HB3.out.size))
           have HC4 := Lib.hid (HC3.out.grow hb)
           clear hb)
        | (go_at_call 9; refine HM.out.mono ?_; clear HM; rintro e V3 ⟨hb3, v3, rfl, hc3⟩
           obtain ⟨ca, ck, rfl⟩ : ∃ a k, v3 = .slice a c.length k := by obtain ⟨a, k, e, _⟩ := hc3; exact ⟨a, k, e⟩
           have HB3 := Lib.hid (HB2.out.trans (hb3.mono HB2.out.size))
           have HC3 := Lib.hid hc3
           have HCN := Lib.hid hc3.names.2
           clear hb3 hc3))
    obtain ⟨O, hO⟩ : ∃ O, outerT p = O := ⟨_, rfl⟩
    rw [hO] at HS9 HOR hol2 HSD ⊢
    clear hO
    have hcl : c.length ≤ 9223372036854775807 := by have := HCB.out.1; omega
    go_loopw [10] (fun i wr => ∃ j : Nat, j ≤ c.length ∧ i = .int .i64 j ∧ Below V9.heap.size V9 wr) (fun i _ => c.length - (intOf i).toNat)
    case atStart => exact ⟨0, Nat.zero_le _, rfl, Below.refl _ _⟩
    case round =>
      obtain ⟨j, hj, rfl, hB⟩ := hrel
      have HBr := Lib.hid (HB9.out.trans (hB.mono HB9.out.size))
      have HR9 := Lib.hid hB
      by_cases hlt : j < c.length
      · obtain ⟨a0, k0, e0, _, _, hcr⟩ := HC9.out.grow hB
        simp only [Value.slice.injEq] at e0
        obtain ⟨rfl, _, rfl⟩ := e0
        obtain ⟨g, off, rfl, hg, hi⟩ := hcr (by intro e; rw [e] at hlt; simp at hlt)
        obtain ⟨_, g0, _⟩ := hi.at j hlt
        have hm6 := HSD.out.2.2.2.2.2.1 c[j] (List.getElem_mem hlt)
        obtain ⟨nm, hnm⟩ : ∃ nm, c[j].1 = nm := ⟨_, rfl⟩
        rw [hnm] at g0 hm6
        have HG := Lib.hid (get_any b nm _ wr (HBV.out wr HBr.out) (by rw [HLB.out]; have := HLN.out; omega) (fun x hx => by have := HCP.out.2.2 x hx; omega) HSB.out.2)
        rw [HPB.out] at HG
        have i1 : (0 : Int) ≤ (j : Int) := by omega
        have i2 : (j : Int) < (c.length : Int) := by omega
        have HHM := Lib.hid hm6
        clear hcr hi hnm hm6 hg
        cases hs : (lookB b nm).isSome with
        | true =>
          have HS := Lib.hid hs
          clear hs
          go_wp2_with (first
            | (go_at_call 15; refine HG.out.mono ?_; clear HG; rintro e V10 ⟨y0, y1, y2, y3, rfl, hb, ht⟩
               rw [HS.out]
               obtain ⟨k1, n1, s1, a1, l1, c1, rfl, rfl, rfl, rfl⟩ := isTm_cells ht
               have HB10 := Lib.hid (hB.trans (hb.mono hB.size))
               clear hb ht))
          go_roundw
          case rel => exact ⟨j + 1, by omega, by go_num, HB10.out.alloc HB10.out.size _⟩
          case measure => simp [intOf]; omega
        | false =>
          have HS := Lib.hid hs
          have hin : nm ∈ O := by
            rcases HHM.out with h | h
            · rw [hs] at h; cases h
            · exact h
          have HIN := Lib.hid (hasL_iff.2 hin)
          clear hs hin
          go_wp2_with (first
            | (go_at_call 16; have hgd := HB10.out; clear hgd; have hm := has07_any O nm _ (V10.alloc (.cells #[.int .u8 k1, .int .i64 n1, .string s1, .slice a1 l1 c1] 24)) (HS9.out.grow (HB10.out.alloc HB10.out.size _)).at; rw [HIN.out] at hm; refine hm.mono ?_; clear hm; rintro e V11 ⟨rfl, hb⟩
               have HB11 := Lib.hid ((HB10.out.alloc HB10.out.size (.cells #[.int .u8 k1, .int .i64 n1, .string s1, .slice a1 l1 c1] 24)).trans (hb.mono (by have := HB10.out.size; simp; omega)))
               clear hb)
            | (go_at_call 15; refine HG.out.mono ?_; clear HG; rintro e V10 ⟨y0, y1, y2, y3, rfl, hb, ht⟩
               rw [HS.out]
               obtain ⟨k1, n1, s1, a1, l1, c1, rfl, rfl, rfl, rfl⟩ := isTm_cells ht
               have HB10 := Lib.hid (hB.trans (hb.mono hB.size))
               have hcl0 := (hb.cell (p := ⟨g, _, none⟩) (show g < wr.heap.size from block_lt g0)).trans g0
               have hcl1 := cell_alloc10 (.cells #[.int .u8 k1, .int .i64 n1, .string s1, .slice a1 l1 c1] 24) hcl0
               clear hb ht))
          go_roundw
          case rel => exact ⟨j + 1, by omega, by go_num, HB11.out⟩
          case measure => simp [intOf]; omega
      · have i2 : ¬ (j : Int) < (c.length : Int) := by omega
        obtain ⟨WA, hWA⟩ : ∃ x, x = wr := ⟨_, rfl⟩
        subst hWA
        have hol3 : O.length ≤ 9223372036854775807 := hol2
        go_wp2
        go_loopw [13] (fun i wr => ∃ j : Nat, j ≤ O.length ∧ i = .int .i64 j ∧ Below WA.heap.size WA wr) (fun i _ => O.length - (intOf i).toNat)
        case atStart => exact ⟨0, Nat.zero_le _, rfl, Below.refl _ _⟩
        case round =>
          obtain ⟨q, hq, rfl, hB2⟩ := hrel
          have HBq := Lib.hid (HBr.out.trans (hB2.mono HBr.out.size))
          have HC := Lib.hid (HC9.out.grow (hB.trans (hB2.mono hB.size)))
          by_cases hlq : q < O.length
          · obtain ⟨g, off, rfl, hcell⟩ := HOR.out (by intro e; rw [e] at hlq; simp at hlq)
            have g0 := hcell q O[q] (List.getElem?_eq_getElem hlq)
            obtain ⟨nm, hnm⟩ : ∃ nm, O[q] = nm := ⟨_, rfl⟩
            rw [hnm] at g0
            have hs : (lookB c nm).isSome = true := HSD.out.2.2.2.2.2.2.1 nm (by rw [← hnm]; exact List.getElem_mem hlq)
            have g1 := ((hB.trans (hB2.mono hB.size)).cell (p := ⟨g, off + q, none⟩) (block_lt g0)).trans g0
            have HG := Lib.hid (get_any c nm _ wr HC.out (by have := HCB.out.1; omega) (fun x hx => by have := HCB.out.2 x hx; omega) HCN.out)
            rw [HPR.out] at HG
            have HS := Lib.hid hs
            have i1 : (0 : Int) ≤ (q : Int) := by omega
            have i3 : (q : Int) < (O.length : Int) := by omega
            clear hcell hs hnm
            go_wp2_with (first
              | (go_at_call 15; refine HG.out.mono ?_; clear HG; rintro e V10 ⟨y0, y1, y2, y3, rfl, hb, ht⟩
                 rw [HS.out]
                 obtain ⟨k1, n1, s1, a1, l1, c1, rfl, rfl, rfl, rfl⟩ := isTm_cells ht
                 have HB10 := Lib.hid (hB2.trans (hb.mono hB2.size))
                 clear hb ht))
            go_roundw
            case rel => exact ⟨q + 1, by omega, by go_num, HB10.out.alloc HB10.out.size _⟩
            case measure => simp [intOf]; omega
          · have i3 : ¬ (q : Int) < (O.length : Int) := by omega
            have hq := (HBq.out.block (w.heap.size) (gL HQ3.out)).trans HQ3.out
            have x0 := cells_at hq 0 _ rfl
            have x1 := cells_at hq 1 _ rfl
            have x2 := cells_at hq 2 _ rfl
            have x3 := cells_at hq 3 _ rfl
            clear hq
            have hq := (HBq.out.block (w.heap.size + 1) (gL HQ4.out)).trans HQ4.out
            have y0 := cells_at hq 0 _ rfl
            have y1 := cells_at hq 1 _ rfl
            have y2 := cells_at hq 2 _ rfl
            have y3 := cells_at hq 3 _ rfl
            clear hq
            have HDX := Lib.hid (fun (t : Tm) (h : t = applyT c p) => show t.depth < 4611686018427387900 by
              rw [h]
              have h1 := applyT_depth (b := c) (D := 150) (fun x hx => by have := HCB.out.2 x hx; have := Tm.depth_le_count x.2; omega) p
              have := Tm.depth_le_count p
              have := HCP.out.1
              omega)
            obtain ⟨X, hX⟩ : ∃ X, applyT c p = X := ⟨_, rfl⟩
            rw [hX] at HSD HDX
            have HDXX := Lib.hid (HDX.out X rfl)
            have HX := Lib.hid hX
            clear hX HDX
            go_wp2_with (first
              | (go_at_call 19; have hgd := HB13.out; clear hgd; have hm := ground_any X _ _ _ _ V13 HX13.out HDXX.out; rw [HSD.out.2.2.2.2.2.2.2.2.1] at hm; refine hm.mono ?_; clear hm; rintro e V14 ⟨rfl, hb⟩
                 have HB14 := Lib.hid (HB13.out.trans (hb.mono HB13.out.size))
                 have HX14 := Lib.hid ((HX13.out.below hb).mono hb.size)
                 have HQ14 := Lib.hid ((hb.block _ (gL HQ13.out)).trans HQ13.out)
                 have z0 := cells_at HQ14.out 0 _ rfl
                 have z1 := cells_at HQ14.out 1 _ rfl
                 have z2 := cells_at HQ14.out 2 _ rfl
                 have z3 := cells_at HQ14.out 3 _ rfl
                 clear hb)
              | (go_at_call 18; have hgd := HB12.out; clear hgd; have hm := sameBinds_any c c _ _ V12 HC12.out HD12.out; rw [(sameBd_iff c c).2 rfl] at hm; refine hm.mono ?_; clear hm; rintro e V13 ⟨rfl, hb⟩
                 have HB13 := Lib.hid (HB12.out.trans (hb.mono HB12.out.size))
                 have HX13 := Lib.hid ((HX12.out.below hb).mono hb.size)
                 have HQ13 := Lib.hid ((hb.block _ (gL HQ12.out)).trans HQ12.out)
                 have z0 := cells_at HQ13.out 0 _ rfl
                 have z1 := cells_at HQ13.out 1 _ rfl
                 have z2 := cells_at HQ13.out 2 _ rfl
                 have z3 := cells_at HQ13.out 3 _ rfl
                 clear hb)
              | (go_at_call 9; have hgd := HB11.out; clear hgd; have hm := match_any p v c _ _ _ _ _ _ _ _ _ U11 (HTP.out U11 HB11.out) (HTV.out U11 HB11.out) HC11.out (by have := HCB.out.1; omega) (fun x hx => by have := HCB.out.2 x hx; omega) HCN.out (by have := HCP.out.1; omega) (by have := HCP.out.2.1; omega); rw [HSD.out.2.2.2.2.2.2.2.1] at hm; refine hm.mono ?_; clear hm; rintro e V12 ⟨hb, v12, rfl, hd⟩
                 obtain ⟨da, dk, rfl⟩ : ∃ a k, v12 = .slice a c.length k := by obtain ⟨a, k, e, _⟩ := hd; exact ⟨a, k, e⟩
                 have HB12 := Lib.hid (HB11.out.trans (hb.mono HB11.out.size))
                 have HC12 := Lib.hid (HC11.out.grow hb)
                 have HD12 := Lib.hid hd
                 have HX12 := Lib.hid ((HX11.out.below hb).mono hb.size)
                 have HQ12 := Lib.hid ((hb.block _ (gL HQ11.out)).trans HQ11.out)
                 clear hb hd)
              | (go_at_call 17; have hm := mApply_any c (by have := HCB.out.1; omega) (fun x hx => by have := HCB.out.2 x hx; omega) HCN.out _ p _ _ _ _ wr HC.out (HTP.out wr HBq.out) (by have := HCP.out.1; omega); rw [HPR.out, HX.out] at hm; refine hm.mono ?_; clear hm; rintro e V10 ⟨y0, y1, y2, y3, rfl, ht, hb⟩
                 have ht1 : IsTm V10.heap.size V10 y0 y1 y2 y3 X := ht.isTm fun b hf => hf.2
                 obtain ⟨k1, n1, s1, a1, l1, c1, rfl, rfl, rfl, rfl⟩ := isTm_cells ht1
                 obtain ⟨U11, hU, hrU, hbU, hzU⟩ := rowTerm V10 (.int .u8 k1) (.int .i64 n1) (.string s1) (.slice a1 l1 c1)
                 have HB11 := Lib.hid (HBq.out.trans ((hb.trans (hbU.mono hb.size)).mono HBq.out.size))
                 have HC11 := Lib.hid (HC.out.grow (hb.trans (hbU.mono hb.size)))
                 have HX11 := Lib.hid ((ht1.below hbU).mono hbU.size)
                 have HQ11 := Lib.hid hrU
                 have hq := (HB11.out.block (w.heap.size) (gL HQ3.out)).trans HQ3.out
                 have x0 := cells_at hq 0 _ rfl
                 have x1 := cells_at hq 1 _ rfl
                 have x2 := cells_at hq 2 _ rfl
                 have x3 := cells_at hq 3 _ rfl
                 clear hq
                 have hq := (HB11.out.block (w.heap.size + 1) (gL HQ4.out)).trans HQ4.out
                 have y0 := cells_at hq 0 _ rfl
                 have y1 := cells_at hq 1 _ rfl
                 have y2 := cells_at hq 2 _ rfl
                 have y3 := cells_at hq 3 _ rfl
                 clear hq
                 clear hb hrU hbU hzU ht ht1))
            refine (expandApi_any X _ _ _ _ V14 HX14.out HDXX.out).mono ?_
            rintro e V15 ⟨v15, er, rfl, hb, hres⟩
            have HB15 := Lib.hid (HB14.out.trans (hb.mono HB14.out.size))
            have HRES := Lib.hid hres
            clear hb hres
            have hq := (HB15.out.block (w.heap.size) (gL HQ3.out)).trans HQ3.out
            have x0 := cells_at hq 0 _ rfl
            have x1 := cells_at hq 1 _ rfl
            have x2 := cells_at hq 2 _ rfl
            have x3 := cells_at hq 3 _ rfl
            clear hq
            have hq := (HB15.out.block (w.heap.size + 1) (gL HQ4.out)).trans HQ4.out
            have y0 := cells_at hq 0 _ rfl
            have y1 := cells_at hq 1 _ rfl
            have y2 := cells_at hq 2 _ rfl
            have y3 := cells_at hq 3 _ rfl
            clear hq
            rcases HRES.out with ⟨hvg, rfl, rfl⟩ | ⟨hvg, hx, rfl, rfl⟩ | ⟨hvg, ts, hx, rfl, hvals⟩
            · go_wp2
              go_ret
              exact ⟨rfl, HB0.out.trans (HB15.out.mono HB0.out.size)⟩
            · go_wp2
              go_ret
              exact ⟨rfl, HB0.out.trans (HB15.out.mono HB0.out.size)⟩
            · have hmem := HSD.out.2.2.2.2.2.2.2.2.2 ts hx
              have hfound : foundT ts v = true := by
                unfold foundT
                rw [List.any_eq_true]
                exact ⟨v, hmem, by rw [beq_iff_eq]; exact cmp_same v⟩
              have hm := among07_any ts v _ _ _ _ _ V15 hvals.tms (HTV.out V15 HB15.out)
              rw [hfound] at hm
              have HAM := Lib.hid hm
              obtain ⟨ta, tk, rfl⟩ : ∃ a k, v15 = .slice a ts.length k := by obtain ⟨a, k, e, _⟩ := hvals.tms; exact ⟨a, k, e⟩
              clear hm hfound hmem hvals hx hvg
              go_wp2_with (go_at_call 21; refine HAM.out.mono ?_; clear HAM; rintro e V16 ⟨rfl, hb⟩; have HB16 := Lib.hid (HB15.out.trans (hb.mono HB15.out.size)); clear hb)
              go_ret
              exact ⟨rfl, HB0.out.trans (HB16.out.mono HB0.out.size)⟩
end Go.Proofs.YtaacmdjaaeacfaaGreatDoor
