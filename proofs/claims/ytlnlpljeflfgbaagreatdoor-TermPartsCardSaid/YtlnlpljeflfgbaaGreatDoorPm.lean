/- The law of parts: its mathematics. -/
import Derived.Test.YtlnlpljeflfgbaaGreatDoorVr
import Derived.Test.YtlnlpljeflfgbaaGreatDoorHp
namespace Go.Proofs.YtlnlpljeflfgbaaGreatDoor

/-- All nodes meet their kind's requirement; the levels aside. -/
def reqT (t : Tm) : Bool := reqB t.kind t.num t.name t.args.length
mutual
def Tm.reqAll : Tm → Bool
  | .mk k n s us => reqB k n s us.length && Tm.reqAllL us
def Tm.reqAllL : List Tm → Bool
  | [] => true
  | t :: ts => Tm.reqAll t && Tm.reqAllL ts
end
mutual
theorem nodes_ok (l : Nat) : ∀ t : Tm, (t.nodes l).all nodeOkB = true ↔ Tm.reqAll t = true ∧ l + t.depth ≤ 13
  | .mk k n s us => by
    have h := nodesL_ok (l + 1) us
    simp only [Tm.nodes, List.all_cons, nodeOkB, Tm.kind, Tm.num, Tm.name, Tm.args, Tm.reqAll, Tm.depth, Bool.and_eq_true, decide_eq_true_eq]
    rw [h]
    constructor
    · rintro ⟨⟨h1, h2⟩, h3, h4⟩
      refine ⟨⟨h2, h3⟩, ?_⟩
      rcases h4 with h4 | h4
      · subst h4
        simp only [Tm.depthL]; omega
      · omega
    · rintro ⟨⟨h2, h3⟩, h4⟩
      exact ⟨⟨by omega, h2⟩, h3, Or.inr (by omega)⟩
theorem nodesL_ok (l : Nat) : ∀ ts : List Tm, (Tm.nodesL l ts).all nodeOkB = true ↔ Tm.reqAllL ts = true ∧ (ts = [] ∨ l + Tm.depthL ts ≤ 13)
  | [] => by simp [Tm.nodesL, Tm.reqAllL]
  | t :: ts => by
    have h1 := nodes_ok l t
    have h2 := nodesL_ok l ts
    simp only [Tm.nodesL, List.all_append, Tm.reqAllL, Tm.depthL, Bool.and_eq_true]
    rw [h1, h2]
    have hd : 1 ≤ t.depth := by cases t; simp only [Tm.depth]; omega
    constructor
    · rintro ⟨⟨a, b⟩, c, d⟩
      refine ⟨⟨a, c⟩, Or.inr ?_⟩
      rcases d with d | d
      · subst d
        simp only [Tm.depthL]; omega
      · omega
    · rintro ⟨⟨a, c⟩, d⟩
      rcases d with d | d
      · cases d
      · exact ⟨⟨a, by omega⟩, c, Or.inr (by omega)⟩
end
theorem validB_iff (t : Tm) : t.validB = true ↔ Tm.reqAll t = true ∧ t.depth ≤ 12 := by
  unfold Tm.validB
  rw [nodes_ok]
  constructor <;> rintro ⟨a, b⟩ <;> exact ⟨a, by omega⟩
theorem all_valid : ∀ ts : List Tm, ts.all Tm.validB = true ↔ Tm.reqAllL ts = true ∧ Tm.depthL ts ≤ 12
  | [] => by simp [Tm.depthL, Tm.reqAllL]
  | t :: ts => by
    have h := all_valid ts
    simp only [List.all_cons, Bool.and_eq_true, Tm.depthL, Tm.reqAllL]
    rw [h, validB_iff]
    constructor
    · rintro ⟨⟨a, b⟩, c, d⟩; exact ⟨⟨a, c⟩, by omega⟩
    · rintro ⟨⟨a, c⟩, d⟩; exact ⟨⟨a, by omega⟩, c, by omega⟩
theorem seven_req : Tm.reqAll (tNum 7) = true := by
  unfold tNum
  simp [Tm.reqAll, Tm.reqAllL, reqB, ByteArray.toList_eq]
theorem sevens_req (m : Nat) : Tm.reqAllL (List.replicate m (tNum 7)) = true ∧ Tm.depthL (List.replicate m (tNum 7)) ≤ 1 := by
  induction m with
  | zero => simp [Tm.depthL, Tm.reqAllL]
  | succ m ih =>
    rw [List.replicate_succ]
    simp only [Tm.depthL, Tm.reqAllL, seven_req, Bool.true_and]
    have : (tNum 7).depth = 1 := by rfl
    exact ⟨ih.1, by omega⟩
/-- A term is valid as its parts, its depth and its flat twin say. -/
theorem valid_parts (k n : Int) (s : ByteArray) (us : List Tm) :
    (Tm.mk k n s us).validB = (us.all Tm.validB && (decide (Tm.depthL us < 12) && (Tm.mk k n s (List.replicate us.length (tNum 7))).validB)) := by
  have h7 := sevens_req us.length
  rw [Bool.eq_iff_iff, Bool.and_eq_true, Bool.and_eq_true, decide_eq_true_eq, validB_iff, validB_iff, all_valid]
  simp only [Tm.reqAll, Tm.depth, List.length_replicate, Bool.and_eq_true]
  constructor
  · rintro ⟨⟨a, b⟩, c⟩; exact ⟨⟨b, by omega⟩, by omega, ⟨a, h7.1⟩, by omega⟩
  · rintro ⟨⟨b, _⟩, c, ⟨a, _⟩, _⟩; exact ⟨⟨a, b⟩, by omega⟩
theorem depthL_snoc (us : List Tm) (j : Nat) (hj : j < us.length) : Tm.depthL (us.take (j + 1)) = max (Tm.depthL (us.take j)) us[j].depth := by
  have h : ∀ (a : List Tm) (x : Tm), Tm.depthL (a ++ [x]) = max (Tm.depthL a) x.depth := by
    intro a x
    induction a with
    | nil => simp only [List.nil_append, Tm.depthL]; omega
    | cons y a ih => simp only [List.cons_append, Tm.depthL, ih]; omega
  rw [List.take_succ_eq_append_getElem hj, h]

mutual
theorem vars_level (l l' : Nat) : ∀ t : Tm, varNames (t.nodes l) = varNames (t.nodes l')
  | .mk k n s us => by
    have h := varsL_level (l + 1) (l' + 1) us
    unfold varNames at h ⊢
    simp only [Tm.nodes, List.filter_cons]
    split <;> simp only [List.map_cons, h]
theorem varsL_level (l l' : Nat) : ∀ ts : List Tm, varNames (Tm.nodesL l ts) = varNames (Tm.nodesL l' ts)
  | [] => rfl
  | t :: ts => by
    have h1 := vars_level l l' t
    have h2 := varsL_level l l' ts
    unfold varNames at h1 h2 ⊢
    simp only [Tm.nodesL, List.filter_append, List.map_append, h1, h2]
end
/-- The names of the variables among the first j terms. -/
def NamesTo (us : List Tm) (j : Nat) (L : List (List UInt8)) : Prop := ∀ x, x ∈ L ↔ x ∈ varNames (Tm.nodesL 1 (us.take j))
theorem NamesTo.start (us : List Tm) : NamesTo us 0 [] := by intro x; simp [Tm.nodesL, varNames]
theorem NamesTo.next {us : List Tm} {j : Nat} {L ss : List (List UInt8)} (h : NamesTo us j L) (hj : j < us.length) (hs : SVars us[j] ss) : NamesTo us (j + 1) (L ++ ss) := by
  intro x
  rw [List.mem_append, h x, hs.2 x, Tm.nodesL_snoc 1 us j hj]
  unfold varNames
  simp only [List.filter_append, List.map_append, List.mem_append]
theorem names_all {k n : Int} {s : ByteArray} {us : List Tm} {L : List (List UInt8)} (h : NamesTo us us.length L) (x : List UInt8) :
    x ∈ varNames ((Tm.mk k n s us).nodes 1) ↔ x ∈ (if k = 3 then L ++ [s.data.toList] else L) := by
  have h1 := h x
  rw [List.take_length, varsL_level 1 2] at h1
  have e : varNames ((Tm.mk k n s us).nodes 1) = if k = 3 then s.data.toList :: varNames (Tm.nodesL 2 us) else varNames (Tm.nodesL 2 us) := by
    unfold varNames
    by_cases hk : k = 3 <;> simp [Tm.nodes, Tm.isVar, Tm.kind, Tm.name, hk]
  rw [e]
  split
  · rw [List.mem_cons, List.mem_append, List.mem_singleton, h1]; exact Or.comm
  · rw [h1]
theorem svars_len {t : Tm} {ss : List (List UInt8)} (h : SVars t ss) : ss.length ≤ (t.nodes 1).length := by
  have hn : ss.Nodup := h.1.imp (fun hab e => by subst e; exact absurd hab (List.lt_irrefl _))
  have hsub : ss ⊆ varNames (t.nodes 1) := fun x hx => (h.2 x).1 hx
  have h1 := hn.length_le_of_subset hsub
  have h2 : (varNames (t.nodes 1)).length ≤ (t.nodes 1).length := by
    unfold varNames
    rw [List.length_map]
    exact List.length_filter_le _ _
  omega
theorem ground_vars {t : Tm} {ss : List (List UInt8)} (h : SVars t ss) : t.groundB = decide (ss.length = 0) := by
  rw [Bool.eq_iff_iff, decide_eq_true_eq]
  unfold Tm.groundB
  rw [List.all_eq_true]
  constructor
  · intro hg
    cases ss with
    | nil => rfl
    | cons x r =>
      have := (h.2 x).1 List.mem_cons_self
      unfold varNames at this
      obtain ⟨y, hy, _⟩ := List.mem_map.1 this
      obtain ⟨hy1, hy2⟩ := List.mem_filter.1 hy
      have := hg y hy1
      rw [hy2] at this
      cases this
  · intro hl y hy
    cases hv : y.1.isVar with
    | false => rfl
    | true =>
      have : y.1.name.data.toList ∈ ss := (h.2 _).2 (List.mem_map.2 ⟨y, List.mem_filter.2 ⟨hy, hv⟩, rfl⟩)
      rw [List.length_eq_zero_iff.1 hl] at this
      cases this
theorem value_ground {t : Tm} (h : t.valueB = true) : t.validB = true ∧ t.groundB = true := by
  unfold Tm.valueB at h
  rw [Bool.and_eq_true] at h
  refine ⟨h.1, ?_⟩
  unfold Tm.groundB
  rw [List.all_eq_true]
  intro x hx
  have := List.all_eq_true.1 h.2 x hx
  unfold plainB at this
  simp only [Bool.or_eq_true, decide_eq_true_eq] at this
  unfold Tm.isVar
  simp only [Bool.not_eq_true', decide_eq_false_iff_not]
  omega
mutual
theorem nodes_count (l : Nat) : ∀ t : Tm, (t.nodes l).length = t.count
  | .mk k n s us => by simp only [Tm.nodes, List.length_cons, nodesL_count (l + 1) us, Tm.count]
theorem nodesL_count (l : Nat) : ∀ ts : List Tm, (Tm.nodesL l ts).length = Tm.countL ts
  | [] => rfl
  | t :: ts => by simp only [Tm.nodesL, List.length_append, nodes_count l t, nodesL_count l ts, Tm.countL]
end
theorem countL_append : ∀ a b : List Tm, Tm.countL (a ++ b) = Tm.countL a + Tm.countL b
  | [], b => by simp [Tm.countL]
  | t :: a, b => by simp only [List.cons_append, Tm.countL, countL_append a b]; omega
theorem countL_take (us : List Tm) (j : Nat) : Tm.countL (us.take j) ≤ Tm.countL us := by
  have h := countL_append (us.take j) (us.drop j)
  rw [List.take_append_drop] at h
  omega
theorem countL_snoc (us : List Tm) (j : Nat) (hj : j < us.length) : Tm.countL (us.take (j + 1)) = Tm.countL (us.take j) + us[j].count := by
  rw [List.take_succ_eq_append_getElem hj, countL_append]
  simp [Tm.countL]
end Go.Proofs.YtlnlpljeflfgbaaGreatDoor
