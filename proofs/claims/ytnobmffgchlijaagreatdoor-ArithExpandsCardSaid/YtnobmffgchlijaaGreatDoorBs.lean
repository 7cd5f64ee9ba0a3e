/- A region that draws its order and only adds to memory, where edges that bind nothing may lead forward; the law of replacements: its mathematics, and what its calls give. -/
import Derived.Test.YtnobmffgchlijaaGreatDoorRa
import Derived.Test.YtnobmffgchlijaaGreatDoorAv
import Derived.Test.YtnobmffgchlijaaGreatDoorBn
import Derived.Test.YtnobmffgchlijaaGreatDoorAs
import Derived.Test.YtnobmffgchlijaaGreatDoorAz
namespace Go.Proofs.YtnobmffgchlijaaGreatDoor
open Go.RowKit

/-- An invariant of what has been listed carries a region through every order. -/
theorem wpAny_invB {P : Program} {ops : Array Oper} {Q : Exit → Act → World → Prop} {n : Nat} (hok : regionB ops n = true) (J : Array Bool → Act → World → Prop) (hsize : ∀ l a w, J l a w → l.size = ops.size)
    (step : ∀ l a w i o, J l a w → l.getD i true = false → ops[i]? = some o → (∀ e ∈ o.after, Region.binds .any e = true → l.getD e.on false = true) → wpOp P ops Q i (fun a' w' => J (l.setIfInBounds i true) a' w') a w)
    (fin : ∀ a w, J (Array.replicate ops.size true) a w → Q .normal a w) :
    ∀ (fuel : Nat) (listed : Array Bool) (a : Act) (w : World), J listed a w → ((List.range ops.size).filter fun i => !listed.getD i true).length ≤ fuel →
      wpAny P .any ops Q fuel listed a w := by
  have hend : ∀ (listed : Array Bool) (a : Act) (w : World), J listed a w → Region.ready .any ops listed = [] → Q .normal a w := by
    intro listed a w hJ hr
    have hall : ∀ i, i < ops.size → listed.getD i true = true := by
      intro i
      induction i using Nat.strongRecOn with
      | _ i ih =>
        intro hi
        by_cases hl : listed.getD i true = true
        · exact hl
        · exfalso
          have hmem : i ∈ Region.ready .any ops listed := by
            unfold Region.ready
            obtain ⟨o, ho⟩ : ∃ o, ops[i]? = some o := ⟨ops[i], Array.getElem?_eq_getElem hi⟩
            refine List.mem_filter.2 ⟨List.mem_range.2 hi, ?_⟩
            simp only [ho, Option.map_some, Option.getD_some, Bool.and_eq_true, Bool.not_eq_true', Array.all_eq_true_iff_forall_mem, Bool.or_eq_true]
            refine ⟨by simpa using hl, fun e he => ?_⟩
            by_cases hbb : Region.binds .any e = true
            case neg => exact Or.inl (by simpa using hbb)
            refine Or.inr ?_
            have hlt := (regionB_spec hok i o ho).1 e he hbb
            have := ih e.on hlt (by omega)
            have hs : e.on < listed.size := by rw [hsize _ _ _ hJ]; omega
            simp only [Array.getD, hs, dif_pos] at this ⊢
            exact this
          rw [hr] at hmem
          cases hmem
    have heq : listed = Array.replicate ops.size true := by
      apply Array.ext
      · rw [hsize _ _ _ hJ, Array.size_replicate]
      · intro i h1 h2
        have := hall i (by rw [← hsize _ _ _ hJ]; exact h1)
        simp only [Array.getD, h1, dif_pos] at this
        simpa using this
    exact fin a w (heq ▸ hJ)
  intro fuel
  induction fuel with
  | zero =>
    intro listed a w hJ hf
    have hr : Region.ready .any ops listed = [] := by
      unfold Region.ready
      rw [List.filter_eq_nil_iff]
      intro i hi h
      have hnil := List.length_eq_zero_iff.1 (Nat.le_zero.1 hf)
      rw [List.filter_eq_nil_iff] at hnil
      simp only [Bool.and_eq_true] at h
      exact hnil i hi h.1
    exact ⟨hr, hend listed a w hJ hr⟩
  | succ fuel ih =>
    intro listed a w hJ hf
    refine ⟨hend listed a w hJ, fun i hi => ?_⟩
    unfold Region.ready at hi
    obtain ⟨hir, hib⟩ := List.mem_filter.1 hi
    have hi' : i < ops.size := List.mem_range.1 hir
    obtain ⟨o, ho⟩ : ∃ o, ops[i]? = some o := ⟨ops[i], Array.getElem?_eq_getElem hi'⟩
    simp only [ho, Option.map_some, Option.getD_some, Bool.and_eq_true, Bool.not_eq_true', Array.all_eq_true_iff_forall_mem, Bool.or_eq_true] at hib
    obtain ⟨hil, hie⟩ := hib
    refine wpOp_mono ?_ (step listed a w i o hJ hil ho (fun e he hb => (hie e he).resolve_left (by rw [hb]; decide)))
    intro a' w' hJ'
    have hls : i < listed.size := by rw [hsize _ _ _ hJ]; exact hi'
    refine ih _ _ _ hJ' ?_
    have hlt : ((List.range ops.size).filter fun j => !(listed.setIfInBounds i true).getD j true).length < ((List.range ops.size).filter fun j => !listed.getD j true).length := by
      have hsub : ((List.range ops.size).filter fun j => !(listed.setIfInBounds i true).getD j true) = ((List.range ops.size).filter fun j => !listed.getD j true).filter (fun j => j != i) := by
        rw [List.filter_filter]
        apply List.filter_congr
        intro j hj
        by_cases e : j = i
        · subst e; simp [Array.getD_eq_getD_getElem?, hls]
        · simp [Array.getD_eq_getD_getElem?, Array.getElem?_setIfInBounds_ne (fun h => e h.symm), e]
      rw [hsub]
      refine List.length_filter_lt_length_iff_exists.2 ⟨i, List.mem_filter.2 ⟨List.mem_range.2 hi', by simpa using hil⟩, by simp⟩
    omega

/-- One step of the invariant. -/
theorem RegInv.putOf {ops : Array Oper} {Φ : Facts} {a0 : Act} {w0 : World} (hst : ∀ i v w w', Φ i v w → Below w.heap.size w w' → Φ i v w') (hok : regionB ops a0.tmps.size = true)
    {listed : Array Bool} {a : Act} {w : World} (hJ : RegInv ops Φ a0 w0 listed a w) {i : Nat} {o : Oper} (ho : ops[i]? = some o) {v : Value} {w' : World} (hb : Below w.heap.size w w') (hv : ∀ d, o.dst = some d → Φ i v w') :
    RegInv ops Φ a0 w0 (listed.setIfInBounds i true) (a.put o.dst v) w' := by
  refine ⟨by simp [hJ.size], hJ.below.trans (hb.mono hJ.below.size), ?_, ?_, ?_, ?_⟩
  · rw [← hJ.defers]; cases o.dst <;> rfl
  · rw [← hJ.tmps]; cases o.dst <;> simp [Act.put]
  · intro t ht
    rw [← hJ.outer t ht]
    cases hd : o.dst with
    | none => rfl
    | some d =>
      have hne : d ≠ t := fun e => noDst_spec ht i o ho (by rw [hd, e])
      simp [Act.put, Array.getD_eq_getD_getElem?, Array.getElem?_setIfInBounds_ne hne]
  · intro j oj d hoj hlj hd
    by_cases hji : j = i
    · subst hji
      obtain rfl : oj = o := by rw [ho] at hoj; exact (Option.some.inj hoj).symm
      have hdn := ((regionB_spec hok j oj ho).2 d hd).1
      rw [hd]
      have e : (a.put (some d) v).tmps.getD d undef = v := by
        have : d < a.tmps.size := by rw [hJ.tmps]; exact hdn
        simp [Act.put, Array.getD_eq_getD_getElem?, this]
      rw [e]
      exact hv d hd
    · have hlj' : listed.getD j false = true := by
        simpa [Array.getD_eq_getD_getElem?, Array.getElem?_setIfInBounds_ne (fun e => hji e.symm)] using hlj
      have hf0 := hst _ _ _ _ (hJ.facts j oj d hoj hlj' hd) hb
      cases hd' : o.dst with
      | none => exact hf0
      | some d' =>
        have hne : d' ≠ d := by
          intro e
          subst e
          rcases Nat.lt_or_gt_of_ne hji with h | h
          · exact ((regionB_spec hok i o ho).2 d' hd').2 j oj h hoj hd
          · exact ((regionB_spec hok j oj hoj).2 d' hd).2 i o h ho hd'
        simpa [Act.put, Array.getD_eq_getD_getElem?, Array.getElem?_setIfInBounds_ne hne] using hf0

/-- The rule. -/
theorem wp_region_growB {P : Program} {ops : Array Oper} {Q : Exit → Act → World → Prop} {id : Nat} {a0 : Act} {w0 : World} (hm : P.follows .mixedOrders = true) (Φ : Facts) (hst : ∀ i v w w', Φ i v w → Below w.heap.size w w' → Φ i v w')
    (hok : regionB ops a0.tmps.size = true) (step : ∀ i o, ops[i]? = some o → StepAt P ops Q Φ a0 w0 i o)
    (fin : ∀ a w, RegInv ops Φ a0 w0 (Array.replicate ops.size true) a w → Q .normal a w) : (Code.region id ops true).wp P Q a0 w0 := by
  refine wp_region_any hm (wpAny_invB hok (RegInv ops Φ a0 w0) (fun _ _ _ h => h.size) ?_ fin ops.size _ a0 _ RegInv.start ?_)
  · intro l a w i o hJ hil ho hie
    obtain ⟨hw, hwp⟩ := step i o ho a w hJ.below hJ.defers hJ.tmps hJ.outer (fun j oj d hwt hoj hd => by obtain ⟨e, he, hej, hb⟩ := waitsFor_spec hwt; exact hJ.facts j oj d hoj (hej ▸ hie e he hb) hd)
    unfold wpOp
    simp only [ho, hw, if_true]
    refine Or.inl (Oper.wp_mono ?_ hwp)
    rintro a' w' ⟨v, rfl, hb, hv⟩
    exact hJ.putOf hst hok ho hb hv
  · exact Nat.le_trans (List.length_filter_le _ _) (by simp)

/-- The term may stand as an argument of a function at the root. -/
def argOk (t : Tm) : Bool := (t.nodes 2).all nodeOkB && (t.nodes 2).all noVarB
theorem numT_ok {z : Int} {p : Nat} (hp : p ≤ 12) (hz : outB z = false) : ((numT z).nodes p).all nodeOkB = true ∧ ((numT z).nodes p).all noVarB = true := by
  refine ⟨(numT_nodes hp hz).1, ?_⟩
  unfold numT
  simp only [Tm.nodes, Tm.nodesL, List.all_cons, List.all_nil, Bool.and_true]
  rfl
theorem span_ok {x y : Int} (hx : outB x = false) (hy : outB y = false) : ((tSpan (tNum x) (tNum y)).nodes 2).all nodeOkB = true ∧ ((tSpan (tNum x) (tNum y)).nodes 2).all noVarB = true := by
  have h1 := numT_ok (z := x) (p := 3) (by omega) hx
  have h2 := numT_ok (z := y) (p := 3) (by omega) hy
  have hr : reqB 6 0 ⟨#[]⟩ ([tNum x, tNum y] : List Tm).length = true := by
    unfold reqB
    rw [if_neg (by omega), if_neg (by omega), if_neg (by omega), if_neg (by omega), if_neg (by omega), if_pos rfl, show (⟨#[]⟩ : ByteArray).toList = [] from toList_mk []]
    rfl
  constructor
  · show ((Tm.mk 6 0 ⟨#[]⟩ [numT x, numT y]).nodes 2).all nodeOkB = true
    simp only [Tm.nodes, List.all_cons, Bool.and_eq_true]
    refine ⟨node_mk (by omega) hr, ?_⟩
    show (Tm.nodesL 3 [numT x, numT y]).all nodeOkB = true
    simp only [Tm.nodesL, List.all_append, h1.1, h2.1, List.all_nil, Bool.and_self]
  · show ((Tm.mk 6 0 ⟨#[]⟩ [numT x, numT y]).nodes 2).all noVarB = true
    simp only [Tm.nodes, List.all_cons, Bool.and_eq_true]
    refine ⟨rfl, ?_⟩
    show (Tm.nodesL 3 [numT x, numT y]).all noVarB = true
    simp only [Tm.nodesL, List.all_append, h1.2, h2.2, List.all_nil, Bool.and_self]
theorem fun_ok {t u : Tm} (h1 : (u.nodes 2).all nodeOkB = true) (h2 : (u.nodes 2).all noVarB = true) : ((tFun sF [t, u]).validB && (tFun sF [t, u]).groundB) = argOk t := by
  have hr : reqB 4 0 sF ([t, u] : List Tm).length = true := by
    have : symbolB sF = true := by decide +kernel
    unfold reqB
    rw [if_neg (by omega), if_neg (by omega), if_neg (by omega), if_pos rfl, this]
    rfl
  have e1 : (tFun sF [t, u]).validB = (t.nodes 2).all nodeOkB := by
    show ((Tm.mk 4 0 sF [t, u]).nodes 1).all nodeOkB = _
    simp only [Tm.nodes, List.all_cons]
    rw [node_mk (by omega) hr, Bool.true_and]
    show (Tm.nodesL 2 [t, u]).all nodeOkB = _
    simp only [Tm.nodesL, List.all_append, h1, List.all_nil, Bool.and_true]
  have e2 : (tFun sF [t, u]).groundB = (t.nodes 2).all noVarB := by
    show ((Tm.mk 4 0 sF [t, u]).nodes 1).all noVarB = _
    simp only [Tm.nodes, List.all_cons]
    rw [show noVarB (Tm.mk 4 0 sF [t, u], 1) = true from rfl, Bool.true_and]
    show (Tm.nodesL 2 [t, u]).all noVarB = _
    simp only [Tm.nodesL, List.all_append, h2, List.all_nil, Bool.and_true]
  rw [e1, e2]
  rfl

theorem exp_num (z : Int) : (tNum z).exp = some [numT z] := rfl
theorem exp_span {x y : Int} (h : y - x + 1 ≤ 1000) : (tSpan (tNum x) (tNum y)).exp = some ((spanL x y).map numT) := by
  show (Tm.mk 6 0 ⟨#[]⟩ [tNum x, tNum y]).exp = _
  simp only [Tm.exp, Tm.expL, exp_num, Option.bind_some, show ¬ ((6 : Int) = 4) by omega, show ¬ ((6 : Int) = 5) by omega, if_false, if_true]
  show (match (some x : Option Int), (some y : Option Int) with
    | some a, some b => if b - a + 1 ≤ 1000 then some ((spanL a b).map numT) else none
    | _, _ => some []) = _
  simp only [h, if_true]
def pairs (l S : List Tm) : List Tm := (combos [l, S]).map fun c => .mk 4 0 sF c
theorem combos_two {α : Type} (S : List α) : ∀ l : List α, combos [l, S] = l.flatMap fun x => S.map fun y => [x, y] := by
  intro l
  simp only [combos]
  congr 1
  funext x
  simp only [List.map_flatMap, List.map_cons, List.map_nil]
  induction S with
  | nil => rfl
  | cons y S ih => simp [List.flatMap_cons, ih]
theorem pairs_length (l S : List Tm) : (pairs l S).length = l.length * S.length := by
  unfold pairs
  rw [List.length_map, combos_two]
  induction l with
  | nil => simp
  | cons x l ih => simp only [List.flatMap_cons, List.length_append, List.length_map, ih, List.length_cons, Nat.succ_mul]; omega
theorem exp_fun {t u : Tm} {S : List Tm} (hu : u.exp = some S) : (tFun sF [t, u]).exp = t.exp.bind fun l => if l.length * S.length ≤ 1000 then some (pairs l S) else none := by
  show (Tm.mk 4 0 sF [t, u]).exp = _
  simp only [Tm.exp, Tm.expL, hu, Option.bind_some, if_true]
  cases t.exp with
  | none => rfl
  | some l =>
    simp only [Option.bind_some]
    have := pairs_length l S
    unfold pairs at this
    rw [List.length_map] at this
    rw [this]
    rfl
theorem pairs_sub {c : Tm} {S : List Tm} (hc : c ∈ S) (l : List Tm) : (pairs l [c]).Sublist (pairs l S) := by
  unfold pairs
  refine List.Sublist.map _ ?_
  rw [combos_two, combos_two]
  induction l with
  | nil => exact List.Sublist.slnil
  | cons x l ih =>
    simp only [List.flatMap_cons]
    refine List.Sublist.append ?_ ih
    exact List.singleton_sublist.2 (List.mem_map.2 ⟨c, hc, rfl⟩)
theorem span_mem {lo c : Int} {n : Nat} (h1 : lo ≤ c) (h2 : c ≤ lo + n) : numT c ∈ (spanL lo (lo + n)).map numT := by
  refine List.mem_map.2 ⟨c, ?_, rfl⟩
  unfold spanL
  refine List.mem_map.2 ⟨(c - lo).toNat, List.mem_range.2 (by omega), by omega⟩
theorem span_len (lo : Int) (n : Nat) : ((spanL lo (lo + n)).map numT).length = n + 1 := by
  rw [List.length_map, spanL_length]; omega
theorem span_none (lo : Int) (n : Nat) : (spanL lo (lo - 1 - n)).map numT = [] := by
  apply List.length_eq_zero_iff.1
  rw [List.length_map, spanL_length]; omega
theorem sub_hit {α : Type} {a b : List α} {i k : Nat} (hi : i < a.length) (hk : k < b.length) (h : (b.drop k).Sublist (a.drop i)) (e : a[i] = b[k]) : (b.drop (k + 1)).Sublist (a.drop (i + 1)) := by
  rw [List.drop_eq_getElem_cons hi, List.drop_eq_getElem_cons hk, e] at h
  exact List.cons_sublist_cons.1 h
theorem sub_miss {α : Type} {a b : List α} {i k : Nat} (hi : i < a.length) (hk : k < b.length) (h : (b.drop k).Sublist (a.drop i)) (e : a[i] ≠ b[k]) : (b.drop k).Sublist (a.drop (i + 1)) := by
  rw [List.drop_eq_getElem_cons hi] at h
  rw [List.drop_eq_getElem_cons hk] at h ⊢
  generalize a[i] = p at h e
  generalize b[k] = q at h e ⊢
  generalize List.drop (k + 1) b = bs at h ⊢
  generalize List.drop (i + 1) a = cs at h ⊢
  cases h with
  | cons _ h => exact h
  | cons_cons _ h => exact absurd rfl e
theorem sub_end {α : Type} {a b : List α} {k : Nat} (hk : k ≤ b.length) (h : (b.drop k).Sublist (a.drop a.length)) : k = b.length := by
  rw [List.drop_length] at h
  have := List.sublist_nil.1 h
  have h2 := congrArg List.length this
  rw [List.length_drop, List.length_nil] at h2
  omega

/-- The expansions that the interface gives: none for what is not a valid term without variables. -/
def exR (t : Tm) : Option (Option (List Tm)) := if t.validB && t.groundB then some t.exp else none

/-- What Expand gave, as long as the world only grows. -/
def XR (t : Tm) (w : World) (v : Value) (er : Int) : Prop :=
  (exR t = none ∧ v = .slice none 0 0 ∧ er = 2) ∨ (exR t = some none ∧ v = .slice none 0 0 ∧ er = 5) ∨ (∃ ts, exR t = some (some ts) ∧ er = 0 ∧ RowV w v ts)
theorem XR.grow {t : Tm} {w w' : World} {v : Value} {er : Int} (h : XR t w v er) (hb : Below w.heap.size w w') : XR t w' v er := by
  rcases h with h | h | ⟨ts, h1, h2, h3⟩
  · exact Or.inl h
  · exact Or.inr (Or.inl h)
  · exact Or.inr (Or.inr ⟨ts, h1, h2, h3.grow hb⟩)
theorem expand_gives (t : Tm) (v0 : Value) (w : World) (ht : TmV w v0 t) (hd : t.depth < 4611686018427387900) :
    Calls Tryz.prog 16 #[v0] w fun e w' => ∃ v er, e = .returned (.tuple #[v, .int .i64 er]) ∧ XR t w' v er ∧ Below w.heap.size w w' := by
  obtain ⟨c0, c1, c2, c3, rfl, hi⟩ := ht
  refine (expandApi_any t c0 c1 c2 c3 w hi hd).mono ?_
  rintro e w' ⟨v, er, rfl, hb, hres⟩
  refine ⟨v, er, rfl, ?_, hb⟩
  unfold XR exR
  rcases hres with ⟨g1, g2, g3⟩ | ⟨g1, g2, g3, g4⟩ | ⟨g1, ts, g2, g3, g4⟩
  · exact Or.inl ⟨by rw [g1]; rfl, g2, g3⟩
  · exact Or.inr (Or.inl ⟨by rw [g1, g2]; rfl, g3, g4⟩)
  · exact Or.inr (Or.inr ⟨ts, by rw [g1, g2]; rfl, g3, g4.tms⟩)

def pickI (x m : Int) : Int := if x.tmod m < 0 then x.tmod m + m else x.tmod m
theorem pickI_in (x : Int) {m : Int} (hm : 1 ≤ m) : 0 ≤ pickI x m ∧ pickI x m < m := by
  have hr := Int.natAbs_tmod x m
  have hlt : x.natAbs % m.natAbs < m.natAbs := Nat.mod_lt _ (by omega)
  unfold pickI
  split <;> omega
set_option maxHeartbeats 400000 in
theorem pick_any (x m : Int) (hm : 1 ≤ m ∧ m ≤ 1000) (w : World) : Calls Tryz.prog 23 #[.int .i64 x, .int .i64 m] w fun e w' => e = .returned (.int .i64 (pickI x m)) ∧ w = w' := by
  have h1 : ¬ m < 1 := by omega
  have h0 : (m == 0) = false := by
    have : m ≠ 0 := by omega
    simpa using this
  have h0' : ¬ m = 0 := by omega
  have hr := Int.natAbs_tmod x m
  have hlt : x.natAbs % m.natAbs < m.natAbs := Nat.mod_lt _ (by omega)
  have HP := Lib.hid (show pickI x m = if x.tmod m < 0 then x.tmod m + m else x.tmod m from rfl)
  obtain ⟨r, hrq⟩ : ∃ r, x.tmod m = r := ⟨_, rfl⟩
  rw [hrq] at hr HP
  have w1 : IntKind.i64.wrap r = r := IntWalk.i64_in _ (by omega)
  have w2 : IntKind.i64.wrap (r + m) = r + m := IntWalk.i64_in _ (by omega)
  by_cases hneg : r < 0
  · rw [if_pos hneg] at HP
    clear hr hlt
    go_enter Tryz.func23, Tryz.ntmps23
    go_wp2
    all_goals first | (exfalso; omega) | (go_ret; exact ⟨by rw [HP.out]; rfl, rfl⟩)
  · rw [if_neg hneg] at HP
    clear hr hlt
    go_enter Tryz.func23, Tryz.ntmps23
    go_wp2
    all_goals first | (exfalso; omega) | (go_ret; exact ⟨by rw [HP.out]; rfl, rfl⟩)

/-- What a slot stands for. -/
inductive Dy where
  | tm (t : Tm) | sl (ts : List Tm) | val (v : Value) | ex (t : Tm) | exv (t : Tm) | exe (t : Tm)
def Dy.holds (v : Value) (w : World) : Dy → Prop
  | .tm t => TmV w v t
  | .sl ts => SlV w v ts
  | .val u => v = u
  | .ex t => ∃ x er, v = .tuple #[x, .int .i64 er] ∧ XR t w x er
  | .exv t => ∃ er, XR t w v er
  | .exe t => ∃ x er, v = .int .i64 er ∧ XR t w x er
theorem Dy.grow {d : Dy} {v : Value} {w w' : World} (h : d.holds v w) (hb : Below w.heap.size w w') : d.holds v w' := by
  cases d with
  | tm => exact TmV.grow h hb
  | sl => exact SlV.grow h hb
  | val => exact h
  | ex => obtain ⟨x, er, h1, h2⟩ := h; exact ⟨x, er, h1, h2.grow hb⟩
  | exv => obtain ⟨er, h2⟩ := h; exact ⟨er, h2.grow hb⟩
  | exe => obtain ⟨x, er, h1, h2⟩ := h; exact ⟨x, er, h1, h2.grow hb⟩
def FY (ds : List Dy) : Facts := fun i v w => match ds[i]? with
  | some d => d.holds v w
  | none => True
theorem FY_grow (ds : List Dy) (i : Nat) (v : Value) (w w' : World) (h : FY ds i v w) (hb : Below w.heap.size w w') : FY ds i v w' := by
  unfold FY at *
  cases hd : ds[i]? with
  | none => trivial
  | some d => rw [hd] at h; exact Dy.grow h hb
theorem FY_at {ds : List Dy} {i : Nat} {v : Value} {w : World} (d : Dy) (hd : ds[i]? = some d) (h : FY ds i v w) : d.holds v w := by
  unfold FY at h
  rw [hd] at h
  exact h
theorem FY_mk {ds : List Dy} {i : Nat} {v : Value} {w : World} (d : Dy) (hd : ds[i]? = some d) (h : d.holds v w) : FY ds i v w := by
  unfold FY
  rw [hd]
  exact h
theorem yval {ops : Array Oper} {ds : List Dy} {o : Oper} {a : Act} {w : World} (hp : HP ops (FY ds) o a w) (j d : Nat) {u : Value} (h : fromOp ops o j d = true) (hd : ds[j]? = some (.val u)) : a.tmps.getD d undef = u := FY_at _ hd (facts_at hp j d h)
theorem ytm {ops : Array Oper} {ds : List Dy} {o : Oper} {a : Act} {w : World} (hp : HP ops (FY ds) o a w) (j d : Nat) {t : Tm} (h : fromOp ops o j d = true) (hd : ds[j]? = some (.tm t)) : TmV w (a.tmps.getD d undef) t := FY_at _ hd (facts_at hp j d h)
theorem ysl {ops : Array Oper} {ds : List Dy} {o : Oper} {a : Act} {w : World} (hp : HP ops (FY ds) o a w) (j d : Nat) {ts : List Tm} (h : fromOp ops o j d = true) (hd : ds[j]? = some (.sl ts)) : SlV w (a.tmps.getD d undef) ts := FY_at _ hd (facts_at hp j d h)
theorem yex {ops : Array Oper} {ds : List Dy} {o : Oper} {a : Act} {w : World} (hp : HP ops (FY ds) o a w) (j d : Nat) {t : Tm} (h : fromOp ops o j d = true) (hd : ds[j]? = some (.ex t)) : ∃ x er, a.tmps.getD d undef = .tuple #[x, .int .i64 er] ∧ XR t w x er := FY_at _ hd (facts_at hp j d h)
theorem yexv {ops : Array Oper} {ds : List Dy} {o : Oper} {a : Act} {w : World} (hp : HP ops (FY ds) o a w) (j d : Nat) {t : Tm} (h : fromOp ops o j d = true) (hd : ds[j]? = some (.exv t)) : ∃ er, XR t w (a.tmps.getD d undef) er := FY_at _ hd (facts_at hp j d h)
theorem yexe {ops : Array Oper} {ds : List Dy} {o : Oper} {a : Act} {w : World} (hp : HP ops (FY ds) o a w) (j d : Nat) {t : Tm} (h : fromOp ops o j d = true) (hd : ds[j]? = some (.exe t)) : ∃ x er, a.tmps.getD d undef = .int .i64 er ∧ XR t w x er := FY_at _ hd (facts_at hp j d h)
theorem XR.bad {t : Tm} {w : World} {v : Value} {er : Int} (h : XR t w v er) (e : exR t = none) : v = .slice none 0 0 ∧ er = 2 := by
  rcases h with ⟨_, h1, h2⟩ | ⟨h0, _, _⟩ | ⟨ts, h0, _, _⟩
  · exact ⟨h1, h2⟩
  · rw [e] at h0; cases h0
  · rw [e] at h0; cases h0
theorem XR.many {t : Tm} {w : World} {v : Value} {er : Int} (h : XR t w v er) (e : exR t = some none) : v = .slice none 0 0 ∧ er = 5 := by
  rcases h with ⟨h0, _, _⟩ | ⟨_, h1, h2⟩ | ⟨ts, h0, _, _⟩
  · rw [e] at h0; cases h0
  · exact ⟨h1, h2⟩
  · rw [e] at h0; cases h0
theorem XR.row {t : Tm} {w : World} {v : Value} {er : Int} {ts : List Tm} (h : XR t w v er) (e : exR t = some (some ts)) : er = 0 ∧ RowV w v ts := by
  rcases h with ⟨h0, _, _⟩ | ⟨h0, _, _⟩ | ⟨ts', h0, h1, h2⟩
  · rw [e] at h0; cases h0
  · rw [e] at h0; cases h0
  · rw [e] at h0; cases h0; exact ⟨h1, h2⟩
/-- The outcome is one: where one is known, all agree. -/
theorem XR.err {t : Tm} {w w' : World} {v v' : Value} {er er' : Int} (h : XR t w v er) (h' : XR t w' v' er') : er = er' := by
  rcases h with ⟨h1, _, h2⟩ | ⟨h1, _, h2⟩ | ⟨ts, h1, h2, _⟩ <;> rcases h' with ⟨g1, _, g2⟩ | ⟨g1, _, g2⟩ | ⟨ts', g1, g2, _⟩ <;> simp_all

end Go.Proofs.YtnobmffgchlijaaGreatDoor
