/- Texts that belong together: A region that draws its order, some of whose edges bind in no drawn order (they may lead forward). Package store: contains, Add, At. Package store: At, pick, All. Package store: All, Find. Package term: Compare and Equal. A region that draws its order, draws counted; worlds that have grown and drawn, as the sorts want them. Package term: Compare once more, with what was drawn counted. Package store: Compare; the order of atoms. -/
import Derived.Test.YtcoieohbmkjpoaaGreatDoorB1d
import Derived.Test.YtcoieohbmkjpoaaGreatDoorB1a
import Derived.StillTailTactics
import Derived.RangeFuncBox
import Derived.Sort.Grow
import Derived.Deep.Draws
namespace Go.Proofs.YtcoieohbmkjpoaaGreatDoor
open Go.RowKit

/-- Edges that bind in a drawn order lead back; each slot is written once, and exists. -/
def regionOkB (ops : Array Oper) (n : Nat) : Bool := (List.range ops.size).all fun i =>
  match ops[i]? with
  | some o => (o.after.all fun e => !(Region.binds .any e) || decide (e.on < i)) && (match o.dst with
    | some d => decide (d < n) && (List.range i).all fun j => ((ops[j]?).bind (·.dst)) != some d
    | none => true)
  | none => true

theorem regionOkB_spec {ops : Array Oper} {n : Nat} (h : regionOkB ops n = true) (i : Nat) (o : Oper) (ho : ops[i]? = some o) :
    (∀ e ∈ o.after, Region.binds .any e = true → e.on < i) ∧ ∀ d, o.dst = some d → d < n ∧ ∀ j oj, j < i → ops[j]? = some oj → oj.dst ≠ some d := by
  have hi : i < ops.size := (Array.getElem?_eq_some_iff.1 ho).1
  have h1 := List.all_eq_true.1 h i (List.mem_range.2 hi)
  simp only [ho, Bool.and_eq_true, Array.all_eq_true_iff_forall_mem] at h1
  refine ⟨fun e he hb => by have := h1.1 e he; rw [hb] at this; simpa using this, fun d hd => ?_⟩
  have h2 := h1.2
  simp only [hd, Bool.and_eq_true, decide_eq_true_eq, List.all_eq_true, List.mem_range, bne_iff_ne, ne_eq] at h2
  refine ⟨h2.1, fun j oj hj hoj e => h2.2 j hj ?_⟩
  simp [hoj, e]

/-- An invariant of what has been listed carries a region through every order. -/
theorem wpAny_invB {P : Program} {ops : Array Oper} {Q : Exit → Act → World → Prop} {n : Nat} (hok : regionOkB ops n = true) (J : Array Bool → Act → World → Prop) (hsize : ∀ l a w, J l a w → l.size = ops.size)
    (step : ∀ l a w i o, J l a w → l.getD i true = false → ops[i]? = some o → (∀ e ∈ o.after, Region.binds .any e = true → l.getD e.on false = true) → wpOp P ops Q i (fun a' w' => J (l.setIfInBounds i true) a' w') a w)
    (fin : ∀ a w, J (Array.replicate ops.size true) a w → Q .normal a w) :
    ∀ (fuel : Nat) (listed : Array Bool) (a : Act) (w : World), J listed a w → ((List.range ops.size).filter fun i => !listed.getD i true).length ≤ fuel →
      wpAny P .any ops Q fuel listed a w := by
  have hend : ∀ (listed : Array Bool) (a : Act) (w : World), J listed a w → Region.ready .any ops listed = [] → Q .normal a w := by
    intro listed a w hJ hr
    have hall : ∀ i, i < ops.size → listed.getD i true = true := by
      intro i
      induction i using Nat.strongRecOn with
      | _ i ih =>
        intro hi
        by_cases hl : listed.getD i true = true
        · exact hl
        · exfalso
          have hmem : i ∈ Region.ready .any ops listed := by
            unfold Region.ready
            obtain ⟨o, ho⟩ : ∃ o, ops[i]? = some o := ⟨ops[i], Array.getElem?_eq_getElem hi⟩
            refine List.mem_filter.2 ⟨List.mem_range.2 hi, ?_⟩
            simp only [ho, Option.map_some, Option.getD_some, Bool.and_eq_true, Bool.not_eq_true', Array.all_eq_true_iff_forall_mem, Bool.or_eq_true]
            refine ⟨by simpa using hl, fun e he => ?_⟩
            cases hbe : Region.binds .any e with
            | false => exact Or.inl rfl
            | true =>
            refine Or.inr ?_
            have hlt := (regionOkB_spec hok i o ho).1 e he hbe
            have := ih e.on hlt (by omega)
            have hs : e.on < listed.size := by rw [hsize _ _ _ hJ]; omega
            simp only [Array.getD, hs, dif_pos] at this ⊢
            exact this
          rw [hr] at hmem
          cases hmem
    have heq : listed = Array.replicate ops.size true := by
      apply Array.ext
      · rw [hsize _ _ _ hJ, Array.size_replicate]
      · intro i h1 h2
        have := hall i (by rw [← hsize _ _ _ hJ]; exact h1)
        simp only [Array.getD, h1, dif_pos] at this
        simpa using this
    exact fin a w (heq ▸ hJ)
  intro fuel
  induction fuel with
  | zero =>
    intro listed a w hJ hf
    have hr : Region.ready .any ops listed = [] := by
      unfold Region.ready
      rw [List.filter_eq_nil_iff]
      intro i hi h
      have hnil := List.length_eq_zero_iff.1 (Nat.le_zero.1 hf)
      rw [List.filter_eq_nil_iff] at hnil
      simp only [Bool.and_eq_true] at h
      exact hnil i hi h.1
    exact ⟨hr, hend listed a w hJ hr⟩
  | succ fuel ih =>
    intro listed a w hJ hf
    refine ⟨hend listed a w hJ, fun i hi => ?_⟩
    unfold Region.ready at hi
    obtain ⟨hir, hib⟩ := List.mem_filter.1 hi
    have hi' : i < ops.size := List.mem_range.1 hir
    obtain ⟨o, ho⟩ : ∃ o, ops[i]? = some o := ⟨ops[i], Array.getElem?_eq_getElem hi'⟩
    simp only [ho, Option.map_some, Option.getD_some, Bool.and_eq_true, Bool.not_eq_true', Array.all_eq_true_iff_forall_mem, Bool.or_eq_true] at hib
    obtain ⟨hil, hie⟩ := hib
    refine wpOp_mono ?_ (step listed a w i o hJ hil ho (fun e he hb => (hie e he).resolve_left (by rw [hb]; decide)))
    intro a' w' hJ'
    have hls : i < listed.size := by rw [hsize _ _ _ hJ]; exact hi'
    refine ih _ _ _ hJ' ?_
    have hlt : ((List.range ops.size).filter fun j => !(listed.setIfInBounds i true).getD j true).length < ((List.range ops.size).filter fun j => !listed.getD j true).length := by
      have hsub : ((List.range ops.size).filter fun j => !(listed.setIfInBounds i true).getD j true) = ((List.range ops.size).filter fun j => !listed.getD j true).filter (fun j => j != i) := by
        rw [List.filter_filter]
        apply List.filter_congr
        intro j hj
        by_cases e : j = i
        · subst e; simp [Array.getD_eq_getD_getElem?, hls]
        · simp [Array.getD_eq_getD_getElem?, Array.getElem?_setIfInBounds_ne (fun h => e h.symm), e]
      rw [hsub]
      refine List.length_filter_lt_length_iff_exists.2 ⟨i, List.mem_filter.2 ⟨List.mem_range.2 hi', by simpa using hil⟩, by simp⟩
    omega

/-- One step of the invariant. -/
theorem RegInv.putB {ops : Array Oper} {Φ : Facts} {a0 : Act} {w0 : World} (hst : ∀ i v w w', Φ i v w → Below w.heap.size w w' → Φ i v w') (hok : regionOkB ops a0.tmps.size = true)
    {listed : Array Bool} {a : Act} {w : World} (hJ : RegInv ops Φ a0 w0 listed a w) {i : Nat} {o : Oper} (ho : ops[i]? = some o) {v : Value} {w' : World} (hb : Below w.heap.size w w') (hv : ∀ d, o.dst = some d → Φ i v w') :
    RegInv ops Φ a0 w0 (listed.setIfInBounds i true) (a.put o.dst v) w' := by
  refine ⟨by simp [hJ.size], hJ.below.trans (hb.mono hJ.below.size), ?_, ?_, ?_, ?_⟩
  · rw [← hJ.defers]; cases o.dst <;> rfl
  · rw [← hJ.tmps]; cases o.dst <;> simp [Act.put]
  · intro t ht
    rw [← hJ.outer t ht]
    cases hd : o.dst with
    | none => rfl
    | some d =>
      have hne : d ≠ t := fun e => noDst_spec ht i o ho (by rw [hd, e])
      simp [Act.put, Array.getD_eq_getD_getElem?, Array.getElem?_setIfInBounds_ne hne]
  · intro j oj d hoj hlj hd
    by_cases hji : j = i
    · subst hji
      obtain rfl : oj = o := by rw [ho] at hoj; exact (Option.some.inj hoj).symm
      have hdn := ((regionOkB_spec hok j oj ho).2 d hd).1
      rw [hd]
      have e : (a.put (some d) v).tmps.getD d undef = v := by
        have : d < a.tmps.size := by rw [hJ.tmps]; exact hdn
        simp [Act.put, Array.getD_eq_getD_getElem?, this]
      rw [e]
      exact hv d hd
    · have hlj' : listed.getD j false = true := by
        simpa [Array.getD_eq_getD_getElem?, Array.getElem?_setIfInBounds_ne (fun e => hji e.symm)] using hlj
      have hf0 := hst _ _ _ _ (hJ.facts j oj d hoj hlj' hd) hb
      cases hd' : o.dst with
      | none => exact hf0
      | some d' =>
        have hne : d' ≠ d := by
          intro e
          subst e
          rcases Nat.lt_or_gt_of_ne hji with h | h
          · exact ((regionOkB_spec hok i o ho).2 d' hd').2 j oj h hoj hd
          · exact ((regionOkB_spec hok j oj hoj).2 d' hd).2 i o h ho hd'
        simpa [Act.put, Array.getD_eq_getD_getElem?, Array.getElem?_setIfInBounds_ne hne] using hf0

theorem wp_region_grow_orB {P : Program} {ops : Array Oper} {Q : Exit → Act → World → Prop} {id : Nat} {a0 : Act} {w0 : World} (hm : P.follows .mixedOrders = true) (Φ : Facts) (hst : ∀ i v w w', Φ i v w → Below w.heap.size w w' → Φ i v w')
    (hok : regionOkB ops a0.tmps.size = true) (step : ∀ i o, ops[i]? = some o → StepOr P ops Q Φ a0 w0 i o)
    (fin : ∀ a w, RegInv ops Φ a0 w0 (Array.replicate ops.size true) a w → Q .normal a w) : (Code.region id ops true).wp P Q a0 w0 := by
  refine wp_region_any hm (wpAny_invB hok (RegInv ops Φ a0 w0) (fun _ _ _ h => h.size) ?_ fin ops.size _ a0 _ RegInv.start ?_)
  · intro l a w i o hJ hil ho hie
    rcases step i o ho a w hJ.below hJ.defers hJ.tmps hJ.outer (fun j oj d hwt hoj hd => by obtain ⟨e, he, hej, hb⟩ := waitsFor_spec hwt; exact hJ.facts j oj d hoj (hej ▸ hie e he hb) hd) with ⟨hw, hwp⟩ | ⟨hw, hv⟩
    · unfold wpOp
      simp only [ho, hw, if_true]
      refine Or.inl (Oper.wp_mono ?_ hwp)
      rintro a' w' ⟨v, rfl, hb, hv⟩
      exact hJ.putB hst hok ho hb hv
    · unfold wpOp
      simp only [ho, hw, Bool.false_eq_true, if_false]
      exact hJ.putB hst hok ho (Below.refl _ _) hv
  · exact Nat.le_trans (List.length_filter_le _ _) (by simp)

end Go.Proofs.YtcoieohbmkjpoaaGreatDoor
namespace Go.Proofs.YtcoieohbmkjpoaaGreatDoor
open Go.RowKit Go.Shelf Go.Maps
attribute [local go_sem] Oper.semAt_some

def fTup (q : Bool) : VF := fun v _ => ∃ u, v = .tuple #[u, .bool q]
theorem fTup_stays (q : Bool) : Stays (fTup q) := fun _ _ _ h _ => h
def fAny : VF := fun _ _ => True
theorem fAny_stays : Stays fAny := fun _ _ _ h _ => h
set_option maxRecDepth 100000 in
set_option maxHeartbeats 4000000 in
theorem contains_any (x : Ato) (av : Option Addr) (cap : Nat) (la : Option Addr) (ln lc : Nat) (mv mb mc : Value) (q : Bool) (w : World) (hA : AtS (fun b => b < w.heap.size) w (.string x.1) (.slice av x.2.length cap) x) (hc : cntA x ≤ 1000000) (hv : validA x = true) (hT : Tab10 w)
    (hm : mv = .map none ∨ ∃ m, mv = .map (some m)) (hmb : ∃ m, mb = .map m) (hmc : ∃ m, mc = .map m)
    (hL : ∀ wx, Below w.heap.size w wx → ∃ v, (Instr.lookup 53 mv (.string (atB x)) true).run Tryz.prog wx = .ok (.tuple #[v, .bool q]) wx) :
    Calls Tryz.prog 51 #[.agg #[.slice la ln lc, mv, mb, mc], .agg #[.string x.1, .slice av x.2.length cap]] w fun e w' => e = .returned (.bool q) ∧ Below w.heap.size w w' := by
  obtain ⟨mm, rfl⟩ : ∃ m, mv = .map m := by rcases hm with h | ⟨m, h⟩ <;> exact ⟨_, h⟩
  obtain ⟨mm2, rfl⟩ := hmb
  obtain ⟨mm3, rfl⟩ := hmc
  obtain ⟨p, us⟩ := x
  change Calls Tryz.prog 51 #[.agg #[.slice la ln lc, .map mm, .map mm2, .map mm3], .agg #[.string p, .slice av us.length cap]] w _
  obtain ⟨W1, hW1⟩ : ∃ W1, (w.alloc (.cells #[.slice la ln lc, .map mm, .map mm2, .map mm3] 57)).alloc (.cells #[.string p, .slice av us.length cap] 24) = W1 := ⟨_, rfl⟩
  have hB : Below w.heap.size w W1 := by rw [← hW1]; exact ((Below.refl _ w).alloc (Nat.le_refl _) _).alloc (by simp) _
  have hx2 : W1.heap[w.heap.size]? = some (.cells #[.slice la ln lc, .map mm, .map mm2, .map mm3] 57 (0, 0)) := by rw [← hW1]; exact (Below.heap_alloc _ _ _ (by simp)).trans (World.alloc_heap_new _ _)
  have hx3 : W1.heap[w.heap.size + 1]? = some (.cells #[.string p, .slice av us.length cap] 24 (0, 0)) := by
    rw [← hW1]; have := World.alloc_heap_new (w.alloc (.cells #[.slice la ln lc, .map mm, .map mm2, .map mm3] 57)) (.cells #[.string p, .slice av us.length cap] 24); rwa [World.size_alloc] at this
  obtain ⟨TB, hTB⟩ : ∃ TB, atB (p, us) = TB := ⟨_, rfl⟩
  have HTB := Lib.hid hTB
  rw [hTB] at hL
  have HL := Lib.hid hL
  have HB := Lib.hid hB
  have HX2 := Lib.hid hx2
  have HX3 := Lib.hid hx3
  have HA := Lib.hid (hA.same (fun _ h => h) (fun b h => hB.block b h))
  have HC := Lib.hid hc
  have HV := Lib.hid hv
  have HT := Lib.hid (hT.below hB)
  clear hA hc hv hT hm hL hB hx2 hx3 hTB
  go_enter Tryz.func51, Tryz.ntmps51
  go_wp2_with fail
  try rw [hW1]
  clear hW1
  have hst := @FL_grow [fV (.pointer (some ⟨w.heap.size, 1, none⟩)), fV (.map mm), fV (.agg #[.string p, .slice av us.length cap]), fV (.string TB), fTup q, fTup q, fAny, fV (.bool q), fAny, fV (.bool q)] (by
    intro F hF
    simp only [List.mem_cons, List.not_mem_nil, or_false] at hF
    rcases hF with rfl | rfl | rfl | rfl | rfl | rfl | rfl | rfl | rfl | rfl <;> first | exact fV_stays _ | exact fTup_stays _ | exact fTup_stays _ | exact fAny_stays | exact fAny_stays)
  refine wp_region_grow_orB (by kernel_rfl) (FL [fV (.pointer (some ⟨w.heap.size, 1, none⟩)), fV (.map mm), fV (.agg #[.string p, .slice av us.length cap]), fV (.string TB), fTup q, fTup q, fAny, fV (.bool q), fAny, fV (.bool q)]) hst (by kernel_rfl) (steps_or ?_) ?_
  · refine ⟨?_, ?_, ?_, ?_, ?_, ?_, ?_, ?_, ?_, ?_, trivial⟩
    · intro a wx hb hd hs ho hp
      refine Or.inl ⟨rfl, ?_⟩
      have h2 : a.tmps.getD 2 undef = .pointer (some ⟨w.heap.size, 0, none⟩) := (ho 2 (by kernel_rfl)).trans rfl
      unfold Oper.wp
      go_simp
      exact Stepped.at (v := .pointer (some ⟨w.heap.size, 1, none⟩)) (by first | rfl | simp) hd (Below.refl _ _) rfl
    · intro a wx hb hd hs ho hp
      refine Or.inl ⟨rfl, ?_⟩
      have h8 : a.tmps.getD 8 undef = .pointer (some ⟨w.heap.size, 1, none⟩) := facts_at hp 0 8 (by kernel_rfl)
      have hx := (hb.block w.heap.size (Array.getElem?_eq_some_iff.1 HX2.out).1).trans HX2.out
      have x1 := cells_at hx 1 _ rfl
      unfold Oper.wp
      go_simp
      exact Stepped.at (v := .map mm) (by first | rfl | simp) hd (Below.refl _ _) rfl
    · intro a wx hb hd hs ho hp
      refine Or.inl ⟨rfl, ?_⟩
      have h3 : a.tmps.getD 3 undef = .pointer (some ⟨w.heap.size + 1, 0, none⟩) := (ho 3 (by kernel_rfl)).trans rfl
      have hx := (hb.block (w.heap.size + 1) (Array.getElem?_eq_some_iff.1 HX3.out).1).trans HX3.out
      have s3 := qslot_of (hs.trans (rfl : _ = 16)) (by decide) h3
      have x0 := cells_at hx 0 _ rfl
      have x1 := cells_at hx 1 _ rfl
      unfold Oper.wp
      go_simp
      exact Stepped.at (v := .agg #[.string p, .slice av us.length cap]) (by first | rfl | simp) hd (Below.refl _ _) rfl
    · intro a wx hb hd hs ho hp
      refine Or.inl ⟨rfl, ?_⟩
      have h10 : a.tmps.getD 10 undef = .agg #[.string p, .slice av us.length cap] := facts_at hp 2 10 (by kernel_rfl)
      have hx := text_any (p, us) av cap _ wx (HA.out.same (S' := fun b => b < w.heap.size) (fun b h => h) (fun b h => hb.block b (by have := HB.out.size; omega))) (fun b h => by have := hb.size; have := HB.out.size; omega) HC.out HV.out (HT.out.below hb)
      rw [HTB.out] at hx
      unfold Oper.wp
      go_simp
      refine (hx).mono ?_
      rintro e w9 ⟨rfl, hb9⟩
      exact Stepped.at (v := .string TB) rfl hd (hb9) rfl
    · intro a wx hb hd hs ho hp
      refine Or.inl ⟨rfl, ?_⟩
      have h9 : a.tmps.getD 9 undef = .map mm := facts_at hp 1 9 (by kernel_rfl)
      have h11 : a.tmps.getD 11 undef = .string TB := facts_at hp 3 11 (by kernel_rfl)
      obtain ⟨v, hrun⟩ := HL.out wx (HB.out.trans (hb.mono HB.out.size))
      unfold Oper.wp
      go_simp
      refine Stepped.at (v := .tuple #[v, .bool q]) (by first | rfl | simp) hd (Below.refl _ _) ?_
      exact ⟨v, rfl⟩
    · intro a wx hb hd hs ho hp
      refine Or.inl ⟨rfl, ?_⟩
      have h12 := facts_at hp 4 12 (by kernel_rfl)
      obtain ⟨v, e12⟩ := h12
      have h12 : a.tmps.getD 12 undef = .tuple #[v, .bool q] := e12
      clear e12
      unfold Oper.wp
      go_simp
      refine Stepped.at (v := .tuple #[v, .bool q]) (by first | rfl | simp) hd (Below.refl _ _) ?_
      exact ⟨v, rfl⟩
    · intro a wx hb hd hs ho hp
      refine Or.inl ⟨rfl, ?_⟩
      have h7 := facts_at hp 5 7 (by kernel_rfl)
      obtain ⟨v, e7⟩ := h7
      have h7 : a.tmps.getD 7 undef = .tuple #[v, .bool q] := e7
      clear e7
      unfold Oper.wp
      go_simp
      exact Stepped.at (v := v) (by first | rfl | simp) hd (Below.refl _ _) trivial
    · intro a wx hb hd hs ho hp
      refine Or.inl ⟨rfl, ?_⟩
      have h7 := facts_at hp 5 7 (by kernel_rfl)
      obtain ⟨v, e7⟩ := h7
      have h7 : a.tmps.getD 7 undef = .tuple #[v, .bool q] := e7
      clear e7
      unfold Oper.wp
      go_simp
      exact Stepped.at (v := .bool q) (by first | rfl | simp) hd (Below.refl _ _) rfl
    · intro a wx hb hd hs ho hp
      refine Or.inl ⟨rfl, ?_⟩
      obtain ⟨u, h13⟩ : ∃ u, a.tmps.getD 13 undef = u := ⟨_, rfl⟩
      unfold Oper.wp
      go_simp
      exact Stepped.at (v := u) (by first | rfl | simp) hd (Below.refl _ _) trivial
    · intro a wx hb hd hs ho hp
      refine Or.inl ⟨rfl, ?_⟩
      have h14 : a.tmps.getD 14 undef = .bool q := facts_at hp 7 14 (by kernel_rfl)
      unfold Oper.wp
      go_simp
      exact Stepped.at (v := .bool q) (by first | rfl | simp) hd (Below.refl _ _) rfl
  intro ac W2 hJ
  obtain ⟨u8, f8⟩ : ∃ u, ac.tmps.getD 8 undef = u := ⟨_, rfl⟩
  obtain ⟨u9, f9⟩ : ∃ u, ac.tmps.getD 9 undef = u := ⟨_, rfl⟩
  obtain ⟨u10, f10⟩ : ∃ u, ac.tmps.getD 10 undef = u := ⟨_, rfl⟩
  obtain ⟨u11, f11⟩ : ∃ u, ac.tmps.getD 11 undef = u := ⟨_, rfl⟩
  obtain ⟨u12, f12⟩ : ∃ u, ac.tmps.getD 12 undef = u := ⟨_, rfl⟩
  obtain ⟨u7, f7⟩ : ∃ u, ac.tmps.getD 7 undef = u := ⟨_, rfl⟩
  obtain ⟨u13, f13⟩ : ∃ u, ac.tmps.getD 13 undef = u := ⟨_, rfl⟩
  obtain ⟨u14, f14⟩ : ∃ u, ac.tmps.getD 14 undef = u := ⟨_, rfl⟩
  obtain ⟨u5, f5⟩ : ∃ u, ac.tmps.getD 5 undef = u := ⟨_, rfl⟩
  have f6 : ac.tmps.getD 6 undef = .bool q := hJ.at_end 9 6 (by kernel_rfl)
  have hBelow := hJ.below
  obtain ⟨TT, DD⟩ := ac
  obtain rfl : DD = [] := hJ.defers
  have hE := slots_merge [false, false, false, false, false, true, true, true, true, true, true, true, true, true, true, false] 16 hJ.tmps rfl (by kernel_rfl) hJ.outer
  simp only [mergeFrom, Nat.zero_add, Nat.reduceAdd, f8, f9, f10, f11, f12, f7, f13, f14, f5, f6] at hE
  clear hst hJ f8 f9 f10 f11 f12 f7 f13 f14 f5 f6
  subst hE
  have HBW := Lib.hid (HB.out.trans (hBelow.mono HB.out.size))
  clear hBelow
  go_wp2
  go_ret
  exact ⟨rfl, HBW.out⟩
open Classical in
theorem look_num {w wx : World} {m n : Nat} {L : List Ato} (h : NumI w m n L) (hb : wx.heap[m]? = w.heap[m]?) (hgood : ∀ x ∈ L, validA x = true) (x : Ato) (hx : validA x = true) (hs : (atB x).size ≤ maxLen) :
    ∃ v, (Instr.lookup 53 (.map (some m)) (.string (atB x)) true).run Tryz.prog wx = .ok (.tuple #[v, .bool (@decide (x ∈ L) (Classical.propDecidable _))]) wx := by
  obtain ⟨D, ho, hd⟩ := h
  have hkey : keyOf Tryz.prog 9 (.string (atB x)) = some (.string (strB (atB x))) := WideMaps.keyOf_string_mk Tryz.underlying9 hs
  obtain ⟨v, hrun⟩ := ownsMap_ok (ownsMap_same ho hb) (string_keyed Tryz.underlying9) Tryz.underlying53 (show (zeroValue 3).run Tryz.prog wx = .ok (.int .i64 0) wx by kernel_rfl) hkey
  refine ⟨v, ?_⟩
  rw [hrun]
  have : Maps.has D (.string (strB (atB x))) = @decide (x ∈ L) (Classical.propDecidable _) := by
    have h1 := hd.has (atB x)
    by_cases hm : x ∈ L
    · rw [h1.2 ⟨atB x, List.mem_map.2 ⟨x, hm, rfl⟩, rfl⟩, decide_eq_true hm]
    · rw [decide_eq_false hm]
      cases hq : Maps.has D (.string (strB (atB x))) with
      | false => rfl
      | true =>
        obtain ⟨t, ht, e⟩ := h1.1 hq
        obtain ⟨y, hy, rfl⟩ := List.mem_map.1 ht
        exact absurd (atB_inj (hgood y hy) hx (strB_inj e) ▸ hy) hm
  rw [this]
open Classical in
/-- What adding an atom gives, and what it reports. -/
noncomputable def addL (L : List Ato) (x : Ato) : List Ato := if validA x = true ∧ x ∉ L ∧ L.length < 2000 then L ++ [x] else L
open Classical in
noncomputable def addR (L : List Ato) (x : Ato) : Bool × Int := if validA x = false then (false, 2) else if x ∈ L then (false, 0) else if L.length < 2000 then (true, 0) else (false, 5)
open Classical in
set_option maxRecDepth 100000 in
set_option maxHeartbeats 4000000 in
theorem add_any (B S : Nat) (lab : Lab) (L : List Ato) (x : Ato) (av : Option Addr) (cap : Nat) (w : World) (hI : StI w B lab S L) (hA : AtS (fun b => b < w.heap.size ∧ lab b = .free) w (.string x.1) (.slice av x.2.length cap) x) (hc : cntA x ≤ 1000000) :
    Calls Tryz.prog 15 #[.pointer (some ⟨S, 0, none⟩), .agg #[.string x.1, .slice av x.2.length cap]] w fun e w' => e = .returned (.tuple #[.bool (addR L x).1, .int .i64 (addR L x).2]) ∧ ∃ lab', StI w' B lab' S (addL L x) ∧ (∀ b, b < w.heap.size → lab' b = lab b) ∧ Stp lab Own w w' := by
  obtain ⟨p, us⟩ := x
  change Calls Tryz.prog 15 #[.pointer (some ⟨S, 0, none⟩), .agg #[.string p, .slice av us.length cap]] w _
  obtain ⟨la, lc, m1, m2, m3, h0, hnum, _, _, _⟩ := hI.row
  obtain ⟨W1, hW1⟩ : ∃ W1, w.alloc (.cells #[.string p, .slice av us.length cap] 24) = W1 := ⟨_, rfl⟩
  have hB : Below w.heap.size w W1 := by rw [← hW1]; exact (Below.refl _ w).alloc (Nat.le_refl _) _
  have hx1 : W1.heap[w.heap.size]? = some (.cells #[.string p, .slice av us.length cap] 24 (0, 0)) := by rw [← hW1]; exact World.alloc_heap_new _ _
  have hS1 := (hB.block S (Array.getElem?_eq_some_iff.1 h0).1).trans h0
  have hA1 : AtS (fun b => b < w.heap.size ∧ lab b = .free) W1 (.string p) (.slice av us.length cap) (p, us) := hA.same (fun _ h => h) (fun b h => hB.block b h.1)
  have HMD := Lib.hid (made_row S _ _ _ _ W1 hS1)
  have HVL := Lib.hid (validA_any (p, us) av cap _ W1 hA1 (fun b h => Nat.lt_of_lt_of_le h.1 hB.size) hc)
  have HI := Lib.hid hI
  have HB := Lib.hid hB
  have HX1 := Lib.hid hx1
  have HS1 := Lib.hid hS1
  have HA := Lib.hid hA1
  have HC := Lib.hid hc
  have HNU := Lib.hid hnum
  obtain ⟨vv, hvv⟩ : ∃ q, validA (p, us) = q := ⟨_, rfl⟩
  rw [hvv] at HVL
  have x0 := cells_at hx1 0 _ rfl
  have x1 := cells_at hx1 1 _ rfl
  clear hI hA hc h0 hnum hB hx1 hS1 hA1
  go_enter Tryz.func15, Tryz.ntmps15
  cases vv with
  | false =>
    have HR := Lib.hid (show addR L (p, us) = (false, 2) by unfold addR; rw [if_pos hvv])
    have HL := Lib.hid (show addL L (p, us) = L by unfold addL; rw [if_neg (by rw [hvv]; simp)])
    clear hvv
    go_wp2_with (first | (go_at_call 50; refine HMD.out.mono ?_; rintro e w1 ⟨rfl, rfl⟩) | (go_at_call 10; refine HVL.out.mono ?_; rintro e w2 ⟨rfl, hb⟩; have HB2 := Lib.hid hb; clear hb))
    go_returns
    have hbw := HB.out.trans (HB2.out.mono HB.out.size)
    exact ⟨by rw [HR.out]; rfl, lab, by rw [HL.out]; exact HI.out.below hbw, fun _ _ => rfl, Stp.of_below hbw⟩
  | true =>
    have HV := Lib.hid hvv
    clear hvv
    obtain ⟨q, hq⟩ : ∃ q, @decide ((p, us) ∈ L) (Classical.propDecidable _) = q := ⟨_, rfl⟩
    have HQ := Lib.hid hq
    clear hq
    go_wp2_with (first | (go_at_call 50; refine HMD.out.mono ?_; rintro e w1 ⟨rfl, rfl⟩; clear HMD) | (go_at_call 10; refine HVL.out.mono ?_; rintro e w2 ⟨rfl, hb⟩; have HB2 := Lib.hid hb; clear hb HVL))
    have hHT : Tab10 w := HI.out.tab
    have hbw2 : Below w.heap.size w w2 := HB.out.trans (HB2.out.mono HB.out.size)
    have hx2 := (HB2.out.block w.heap.size (Array.getElem?_eq_some_iff.1 HX1.out).1).trans HX1.out
    have hS2 := (HB2.out.block S (Array.getElem?_eq_some_iff.1 HS1.out).1).trans HS1.out
    have HLK := Lib.hid (show ∀ wx, Below w2.heap.size w2 wx → ∃ v, (Instr.lookup 53 (.map (some m1)) (.string (atB (p, us))) true).run Tryz.prog wx = .ok (.tuple #[v, .bool q]) wx from fun wx hb => by
      have h1 := look_num HNU.out ((hb.block m1 (by have := HNU.out; obtain ⟨D, ho, _⟩ := this; exact Nat.lt_of_lt_of_le ho.lt hbw2.size)).trans (hbw2.block m1 (by have := HNU.out; obtain ⟨D, ho, _⟩ := this; exact ho.lt))) (fun y hy => (HI.out.good y hy).1) (p, us) HV.out (by have := atB_size HA.out (fun b h => Nat.lt_of_lt_of_le h.1 HB.out.size) HC.out HV.out; unfold maxLen; omega)
      rw [HQ.out] at h1
      exact h1)
    have HA2 := Lib.hid (HA.out.same (w' := w2) (fun _ h => h) (fun b h => HB2.out.block b (Nat.lt_of_lt_of_le h.1 HB.out.size)))
    have HT2 := Lib.hid (hHT.below hbw2)
    have HX2 := Lib.hid hx2
    have HS2 := Lib.hid hS2
    have HBw2 := Lib.hid hbw2
    clear hx2 hS2 hHT hbw2 HB2 HX1 HS1 HA x0 x1
    have hst := @FL_grow [fV (.pointer (some ⟨S, 0, none⟩)), fV (.pointer (some ⟨S, 0, none⟩)), fV (.pointer (some ⟨S, 0, none⟩)), fV (.agg #[.slice la L.length lc, .map (some m1), .map (some m2), .map (some m3)]), fV (.agg #[.string p, .slice av us.length cap]), fV (.bool q), fV (.bool q)] (by
      intro F hF
      simp only [List.mem_cons, List.not_mem_nil, or_false] at hF
      rcases hF with rfl | rfl | rfl | rfl | rfl | rfl | rfl <;> first | exact fV_stays _)
    refine wp_region_grow (by kernel_rfl) (FL [fV (.pointer (some ⟨S, 0, none⟩)), fV (.pointer (some ⟨S, 0, none⟩)), fV (.pointer (some ⟨S, 0, none⟩)), fV (.agg #[.slice la L.length lc, .map (some m1), .map (some m2), .map (some m3)]), fV (.agg #[.string p, .slice av us.length cap]), fV (.bool q), fV (.bool q)]) hst (by kernel_rfl) (steps_all ?_) ?_
    · refine ⟨?_, ?_, ?_, ?_, ?_, ?_, ?_, trivial⟩
      · intro a wx hb hd hs ho hp
        refine ⟨rfl, ?_⟩
        have h0 : a.tmps.getD 0 undef = .pointer (some ⟨S, 0, none⟩) := (ho 0 (by kernel_rfl)).trans rfl
        unfold Oper.wp
        go_simp
        exact Stepped.at (v := .pointer (some ⟨S, 0, none⟩)) (by first | rfl | simp) hd (Below.refl _ _) rfl
      · intro a wx hb hd hs ho hp
        refine ⟨rfl, ?_⟩
        have h15 : a.tmps.getD 15 undef = .pointer (some ⟨S, 0, none⟩) := facts_at hp 0 15 (by kernel_rfl)
        unfold Oper.wp
        go_simp
        exact Stepped.at (v := .pointer (some ⟨S, 0, none⟩)) (by first | rfl | simp) hd (Below.refl _ _) rfl
      · intro a wx hb hd hs ho hp
        refine ⟨rfl, ?_⟩
        have h16 : a.tmps.getD 16 undef = .pointer (some ⟨S, 0, none⟩) := facts_at hp 1 16 (by kernel_rfl)
        unfold Oper.wp
        go_simp
        exact Stepped.at (v := .pointer (some ⟨S, 0, none⟩)) (by first | rfl | simp) hd (Below.refl _ _) rfl
      · intro a wx hb hd hs ho hp
        refine ⟨rfl, ?_⟩
        have h17 : a.tmps.getD 17 undef = .pointer (some ⟨S, 0, none⟩) := facts_at hp 2 17 (by kernel_rfl)
        have hx := (hb.block S (Array.getElem?_eq_some_iff.1 HS2.out).1).trans HS2.out
        have s17 := qslot_of (hs.trans (rfl : _ = 34)) (by decide) h17
        have x0 := cells_at hx 0 _ rfl
        have x1 := cells_at hx 1 _ rfl
        have x2 := cells_at hx 2 _ rfl
        have x3 := cells_at hx 3 _ rfl
        unfold Oper.wp
        go_simp
        exact Stepped.at (v := .agg #[.slice la L.length lc, .map (some m1), .map (some m2), .map (some m3)]) (by first | rfl | simp) hd (Below.refl _ _) rfl
      · intro a wx hb hd hs ho hp
        refine ⟨rfl, ?_⟩
        have h3 : a.tmps.getD 3 undef = .pointer (some ⟨w.heap.size, 0, none⟩) := (ho 3 (by kernel_rfl)).trans rfl
        have hx := (hb.block w.heap.size (Array.getElem?_eq_some_iff.1 HX2.out).1).trans HX2.out
        have s3 := qslot_of (hs.trans (rfl : _ = 34)) (by decide) h3
        have x0 := cells_at hx 0 _ rfl
        have x1 := cells_at hx 1 _ rfl
        unfold Oper.wp
        go_simp
        exact Stepped.at (v := .agg #[.string p, .slice av us.length cap]) (by first | rfl | simp) hd (Below.refl _ _) rfl
      · intro a wx hb hd hs ho hp
        refine ⟨rfl, ?_⟩
        have h18 : a.tmps.getD 18 undef = .agg #[.slice la L.length lc, .map (some m1), .map (some m2), .map (some m3)] := facts_at hp 3 18 (by kernel_rfl)
        have h19 : a.tmps.getD 19 undef = .agg #[.string p, .slice av us.length cap] := facts_at hp 4 19 (by kernel_rfl)
        have hx := contains_any (p, us) av cap la L.length lc (.map (some m1)) (.map (some m2)) (.map (some m3)) q wx (HA2.out.same (fun b h => by have := HBw2.out.size; have := hb.size; have := h.1; omega) (fun b h => hb.block b (Nat.lt_of_lt_of_le h.1 HBw2.out.size))) HC.out HV.out (HT2.out.below hb) (Or.inr ⟨_, rfl⟩) ⟨_, rfl⟩ ⟨_, rfl⟩ (fun wy hy => HLK.out wy (hb.trans (hy.mono hb.size)))
        unfold Oper.wp
        go_simp
        refine (hx).mono ?_
        rintro e w9 ⟨rfl, hb9⟩
        exact Stepped.at (v := .bool q) rfl hd (hb9) rfl
      · intro a wx hb hd hs ho hp
        refine ⟨rfl, ?_⟩
        have h20 : a.tmps.getD 20 undef = .bool q := facts_at hp 5 20 (by kernel_rfl)
        unfold Oper.wp
        go_simp
        exact Stepped.at (v := .bool q) (by first | rfl | simp) hd (Below.refl _ _) rfl
    intro ac W3 hJ
    obtain ⟨u15, f15⟩ : ∃ u, ac.tmps.getD 15 undef = u := ⟨_, rfl⟩
    obtain ⟨u16, f16⟩ : ∃ u, ac.tmps.getD 16 undef = u := ⟨_, rfl⟩
    obtain ⟨u17, f17⟩ : ∃ u, ac.tmps.getD 17 undef = u := ⟨_, rfl⟩
    obtain ⟨u18, f18⟩ : ∃ u, ac.tmps.getD 18 undef = u := ⟨_, rfl⟩
    obtain ⟨u19, f19⟩ : ∃ u, ac.tmps.getD 19 undef = u := ⟨_, rfl⟩
    obtain ⟨u20, f20⟩ : ∃ u, ac.tmps.getD 20 undef = u := ⟨_, rfl⟩
    have f14 : ac.tmps.getD 14 undef = .bool q := hJ.at_end 6 14 (by kernel_rfl)
    have hBelow := hJ.below
    obtain ⟨TT, DD⟩ := ac
    obtain rfl : DD = [] := hJ.defers
    have hE := slots_merge [false, false, false, false, false, false, false, false, false, false, false, false, false, false, true, true, true, true, true, true, true, false, false, false, false, false, false, false, false, false, false, false, false, false] 34 hJ.tmps rfl (by kernel_rfl) hJ.outer
    simp only [mergeFrom, Nat.zero_add, Nat.reduceAdd, f15, f16, f17, f18, f19, f20, f14] at hE
    clear hst hJ f15 f16 f17 f18 f19 f20 f14
    subst hE
    have HX3 := Lib.hid ((hBelow.block w.heap.size (Array.getElem?_eq_some_iff.1 HX2.out).1).trans HX2.out)
    have hS3 := (hBelow.block S (Array.getElem?_eq_some_iff.1 HS2.out).1).trans HS2.out
    have x0 := cells_at hS3 0 _ rfl
    have HB43 := Lib.hid hBelow
    have HB3 := Lib.hid (HBw2.out.trans (hBelow.mono HBw2.out.size))
    clear hS3 hBelow HLK
    cases q with
    | true =>
      have hmem : (p, us) ∈ L := of_decide_eq_true HQ.out
      have HR := Lib.hid (show addR L (p, us) = (false, 0) by unfold addR; rw [if_neg (by rw [HV.out]; simp), if_pos hmem])
      have HL := Lib.hid (show addL L (p, us) = L by unfold addL; rw [if_neg (fun h => h.2.1 hmem)])
      clear hmem
      go_wp2
      go_returns
      exact ⟨by rw [HR.out]; rfl, lab, by rw [HL.out]; exact HI.out.below HB3.out, fun _ _ => rfl, Stp.of_below HB3.out⟩
    | false =>
      have hmem : (p, us) ∉ L := of_decide_eq_false HQ.out
      by_cases hlen : L.length < 2000
      · have HR := Lib.hid (show addR L (p, us) = (true, 0) by unfold addR; rw [if_neg (by rw [HV.out]; simp), if_neg hmem, if_pos hlen])
        have HL := Lib.hid (show addL L (p, us) = L ++ [(p, us)] by unfold addL; rw [if_pos ⟨HV.out, hmem, hlen⟩])
        have i1 : ¬ (2000 : Int) ≤ (L.length : Int) := by omega
        have HLN := Lib.hid hlen
        clear hmem hlen
        go_wp2_with (go_at_call 52; refine (count_any _ la L.length lc rfl _).mono ?_; rintro e w4 ⟨rfl, rfl⟩)
        have HX4 := HX3
        have hst := @FL_grow [fV (.pointer (some ⟨S, 0, none⟩)), fV (.pointer (some ⟨S, 0, none⟩)), fV (.pointer (some ⟨S, 0, none⟩)), fV (.agg #[.string p, .slice av us.length cap])] (by
          intro F hF
          simp only [List.mem_cons, List.not_mem_nil, or_false] at hF
          rcases hF with rfl | rfl | rfl | rfl <;> first | exact fV_stays _)
        refine wp_region_grow_tail (by kernel_rfl) 4 (FL [fV (.pointer (some ⟨S, 0, none⟩)), fV (.pointer (some ⟨S, 0, none⟩)), fV (.pointer (some ⟨S, 0, none⟩)), fV (.agg #[.string p, .slice av us.length cap])]) hst (by kernel_rfl) (by kernel_rfl) (steps_to ?_) ?_
        · simp only [List.take_succ_cons, List.take_zero]
          refine ⟨?_, ?_, ?_, ?_, trivial⟩
          · intro a wx hb hd hs ho hp
            refine ⟨rfl, ?_⟩
            have h0 : a.tmps.getD 0 undef = .pointer (some ⟨S, 0, none⟩) := (ho 0 (by kernel_rfl)).trans rfl
            unfold Oper.wp
            go_simp
            exact Stepped.at (v := .pointer (some ⟨S, 0, none⟩)) (by first | rfl | simp) hd (Below.refl _ _) rfl
          · intro a wx hb hd hs ho hp
            refine ⟨rfl, ?_⟩
            have h29 : a.tmps.getD 29 undef = .pointer (some ⟨S, 0, none⟩) := facts_at hp 0 29 (by kernel_rfl)
            unfold Oper.wp
            go_simp
            exact Stepped.at (v := .pointer (some ⟨S, 0, none⟩)) (by first | rfl | simp) hd (Below.refl _ _) rfl
          · intro a wx hb hd hs ho hp
            refine ⟨rfl, ?_⟩
            have h30 : a.tmps.getD 30 undef = .pointer (some ⟨S, 0, none⟩) := facts_at hp 1 30 (by kernel_rfl)
            unfold Oper.wp
            go_simp
            exact Stepped.at (v := .pointer (some ⟨S, 0, none⟩)) (by first | rfl | simp) hd (Below.refl _ _) rfl
          · intro a wx hb hd hs ho hp
            refine ⟨rfl, ?_⟩
            have h3 : a.tmps.getD 3 undef = .pointer (some ⟨w.heap.size, 0, none⟩) := (ho 3 (by kernel_rfl)).trans rfl
            have hx := (hb.block w.heap.size (Array.getElem?_eq_some_iff.1 HX4.out).1).trans HX4.out
            have s3 := qslot_of (hs.trans (rfl : _ = 34)) (by decide) h3
            have x0 := cells_at hx 0 _ rfl
            have x1 := cells_at hx 1 _ rfl
            unfold Oper.wp
            go_simp
            exact Stepped.at (v := .agg #[.string p, .slice av us.length cap]) (by first | rfl | simp) hd (Below.refl _ _) rfl
        intro ac W5 hBelow hDefers hTmps hOuter hf
        obtain ⟨u29, f29⟩ : ∃ u, ac.tmps.getD 29 undef = u := ⟨_, rfl⟩
        obtain ⟨u30, f30⟩ : ∃ u, ac.tmps.getD 30 undef = u := ⟨_, rfl⟩
        have f31 : ac.tmps.getD 31 undef = .pointer (some ⟨S, 0, none⟩) := facts_to hf 2 31 (by decide) (by kernel_rfl)
        have f32 : ac.tmps.getD 32 undef = .agg #[.string p, .slice av us.length cap] := facts_to hf 3 32 (by decide) (by kernel_rfl)
        obtain ⟨TT, DD⟩ := ac
        obtain rfl : DD = [] := hDefers
        have hE := slots_mergeR [false, false, false, false, false, false, false, false, false, false, false, false, false, false, false, false, false, false, false, false, false, false, false, false, false, false, false, false, false, true, true, true, true, false] 34 hTmps rfl (by kernel_rfl) hOuter
        simp only [mergeFrom, Nat.zero_add, Nat.reduceAdd, f29, f30, f31, f32] at hE
        clear hst hf hOuter hTmps f29 f30 f31 f32
        subst hE
        simp only [List.drop_succ_cons, List.drop_zero]
        have hb4 := HB3.out.trans (hBelow.mono HB3.out.size)
        have HIN := Lib.hid (insert_any B S lab L (p, us) av cap W5 (HI.out.below hb4) (HA2.out.same (fun b h => ⟨Nat.lt_of_lt_of_le h.1 hb4.size, h.2⟩) (fun b h => ((hBelow.block b (Nat.lt_of_lt_of_le h.1 HB3.out.size)).trans (HB43.out.block b (Nat.lt_of_lt_of_le h.1 HBw2.out.size))))) HV.out HC.out HLN.out)
        have HB5 := Lib.hid hb4
        clear hBelow hb4
        go_wp2_with (go_at_call 53; refine HIN.out.mono ?_; rintro e w6 ⟨rfl, lab2, q1, q2, q3⟩)
        go_returns
        exact ⟨by rw [HR.out]; rfl, lab2, by rw [HL.out]; exact q1, fun b hb => q2 b (Nat.lt_of_lt_of_le hb HB5.out.size), (Stp.of_below HB5.out).trans q3 (fun _ _ => rfl)⟩
      · have HR := Lib.hid (show addR L (p, us) = (false, 5) by unfold addR; rw [if_neg (by rw [HV.out]; simp), if_neg hmem, if_neg hlen])
        have HL := Lib.hid (show addL L (p, us) = L by unfold addL; rw [if_neg (fun h => hlen h.2.2)])
        have i1 : (2000 : Int) ≤ (L.length : Int) := by omega
        clear hmem hlen
        go_wp2_with (go_at_call 52; refine (count_any _ la L.length lc rfl _).mono ?_; rintro e w4 ⟨rfl, rfl⟩)
        go_returns
        exact ⟨by rw [HR.out]; rfl, lab, by rw [HL.out]; exact HI.out.below HB3.out, fun _ _ => rfl, Stp.of_below HB3.out⟩
end Go.Proofs.YtcoieohbmkjpoaaGreatDoor
namespace Go.Proofs.YtcoieohbmkjpoaaGreatDoor
open Go.RowKit Go.Shelf Go.Maps
attribute [local go_sem] Oper.semAt_some

/-- A list of atoms that can be read. -/
def LstR (w : World) (lv : Value) (L : List Ato) : Prop := ∃ xs, w.ownsRow 0 24 2 lv L.length xs ∧ FlatA (fun b => b < w.heap.size) w xs L
theorem LstR.below {w w' : World} {lv : Value} {L : List Ato} (h : LstR w lv L) (hb : Below w.heap.size w w') : LstR w' lv L := by
  obtain ⟨xs, h1, h2⟩ := h
  exact ⟨xs, own_grown' h1 hb, h2.same (fun b h => Nat.lt_of_lt_of_le h hb.size) (fun b h => hb.block b h)⟩
theorem LstI.read {w : World} {lab : Lab} {lv : Value} {L : List Ato} (h : LstI w lab lv L) : LstR w lv L := by
  obtain ⟨xs, h1, h2, _⟩ := h
  exact ⟨xs, h1, h2.same (fun b h => h.1) (fun _ _ => rfl)⟩
theorem LstR.nil (w : World) : LstR w (.slice none 0 0) [] := ⟨[], World.ownsRow_nil _ _ _ _, rfl⟩
theorem LstR.at {w : World} {lv : Value} {L : List Ato} (h : LstR w lv L) (i : Nat) (hi : i < L.length) : ∃ g c a k, lv = .slice (some ⟨g, 0, none⟩) L.length c ∧ w.cell? ⟨g, i * 2, none⟩ = some (.string L[i].1) ∧ w.cell? ⟨g, i * 2 + 1, none⟩ = some (.slice a L[i].2.length k) ∧ AtS (fun b => b < w.heap.size) w (.string L[i].1) (.slice a L[i].2.length k) L[i] := by
  obtain ⟨xs, ho, hf⟩ := h
  have ho0 := ho
  obtain ⟨v0, v1, h0, h1, hA⟩ := hf.at i hi
  obtain ⟨a, k, rfl, rfl⟩ := hA.shape
  rcases ho.2 with ⟨rfl, hz⟩ | ⟨g, cap, cur, rfl, _, _⟩
  · omega
  · have c0 := ho0.cells (g := g) rfl _ _ h0
    have c1 := ho0.cells (g := g) rfl _ _ h1
    rw [Addr.add_lit] at c0 c1
    exact ⟨g, cap, a, k, rfl, by simpa using c0, by simpa using c1, hA⟩
/-- A list of atoms of the call's own. -/
def ResA (w w' : World) (v : Value) (L : List Ato) : Prop := ∃ xs S, w'.ownsRow w.heap.size 24 2 v L.length xs ∧ FlatA S w' xs L ∧ ∀ b, S b → w.heap.size ≤ b ∧ b < w'.heap.size ∧ v.ownBlock ≠ some b
theorem ResA.grow {w w1 w2 : World} {v : Value} {L : List Ato} (h : ResA w w1 v L) (hb : Below w1.heap.size w1 w2) : ResA w w2 v L := by
  obtain ⟨xs, S, h1, h2, h3⟩ := h
  exact ⟨xs, S, own_grown' h1 hb, h2.same (fun _ h => h) (fun b hS => hb.block b (h3 b hS).2.1), fun b hS => ⟨(h3 b hS).1, Nat.lt_of_lt_of_le (h3 b hS).2.1 hb.size, (h3 b hS).2.2⟩⟩
theorem ResA.from {w0 w w' : World} {v : Value} {L : List Ato} (h : ResA w w' v L) (hz : w0.heap.size ≤ w.heap.size) : ResA w0 w' v L := by
  obtain ⟨xs, S, h1, h2, h3⟩ := h
  exact ⟨xs, S, own_mono hz h1, h2, fun b hS => ⟨Nat.le_trans hz (h3 b hS).1, (h3 b hS).2⟩⟩
theorem ResA.read {w w' : World} {v : Value} {L : List Ato} (h : ResA w w' v L) : LstR w' v L := by
  obtain ⟨xs, S, h1, h2, h3⟩ := h
  exact ⟨xs, own_mono (Nat.zero_le _) h1, h2.same (fun b h => (h3 b h).2.1) (fun _ _ => rfl)⟩
theorem ResA.app {w w1 w2 : World} {v v' : Value} {L : List Ato} {x : Ato} {v0 v1 : Value} {xs : List Value} {S : Nat → Prop} (h2 : FlatA S w1 xs L) (h3 : ∀ b, S b → w.heap.size ≤ b ∧ b < w1.heap.size ∧ v.ownBlock ≠ some b)
    (ht : AtS S w1 v0 v1 x) (hown : w2.ownsRow w.heap.size 24 2 v' (L.length + 1) (xs ++ [v0, v1])) (hg : w1.grownBy w2 v.ownBlock) (hat : v'.ownBlock = v.ownBlock ∨ v'.ownBlock = some w1.heap.size) : ResA w w2 v' (L ++ [x]) := by
  have hk : ∀ b, S b → w2.heap[b]? = w1.heap[b]? := fun b hS => hg.block b (h3 b hS).2.1 (fun e => (h3 b hS).2.2 e.symm)
  refine ⟨xs ++ [v0, v1], S, by simpa using hown, FlatA.snoc (ht.same (fun _ h => h) hk) (h2.same (fun _ h => h) hk), fun b hS => ⟨(h3 b hS).1, Nat.lt_of_lt_of_le (h3 b hS).2.1 hg.size, ?_⟩⟩
  rcases hat with e | e
  · rw [e]; exact (h3 b hS).2.2
  · rw [e]; intro e2; cases e2; have := (h3 _ hS).2.1; omega
/-- The atoms with the given numbers. -/
def pickL (L : List Ato) (is : List Nat) : List Ato := is.map fun i => (L[i]?).getD (⟨#[]⟩, [])
theorem pickL_take (L : List Ato) (is : List Nat) (j : Nat) (h : j < is.length) (h2 : is[j] < L.length) : pickL L (is.take (j + 1)) = pickL L (is.take j) ++ [L[is[j]]] := by
  unfold pickL
  rw [List.take_succ_eq_append_getElem h, List.map_append]
  simp [h2]
set_option maxRecDepth 100000 in
set_option maxHeartbeats 2000000 in
theorem pick1_any (bx : Nat) (lv : Value) (L : List Ato) (i : Nat) (w : World) (hb : w.heap[bx]? = some (.cells #[lv] 52 (0, 0))) (hR : LstR w lv L) (hi : i < L.length) (hc : cntA L[i] ≤ 1000000) :
    Calls Tryz.prog 90 #[.int .i64 i, .pointer (some ⟨bx, 0, none⟩)] w fun e w' => ∃ a c, e = .returned (.agg #[.string L[i].1, .slice a L[i].2.length c]) ∧ Below w.heap.size w w' ∧ AtS (NewS w w') w' (.string L[i].1) (.slice a L[i].2.length c) L[i] := by
  obtain ⟨W0, hW0⟩ : ∃ W0, w.alloc (.cells #[.string ⟨#[]⟩, .slice none 0 0] 24) = W0 := ⟨_, rfl⟩
  have hB : Below w.heap.size w W0 := by rw [← hW0]; exact (Below.refl _ w).alloc (Nat.le_refl _) _
  have hR1 : W0.heap[w.heap.size]? = some (.cells #[.string ⟨#[]⟩, .slice none 0 0] 24 (0, 0)) := by rw [← hW0]; exact World.alloc_heap_new _ _
  have hsz : W0.heap.size = w.heap.size + 1 := by rw [← hW0]; simp
  have b0 := (hB.block bx (Array.getElem?_eq_some_iff.1 hb).1).trans hb
  have z0 := cells_at b0 0 _ rfl
  obtain ⟨g, c, a, k, rfl, y0, y1, hA⟩ := (hR.below hB).at i hi
  obtain ⟨x, hx⟩ : ∃ x, L[i] = x := ⟨_, rfl⟩
  rw [hx] at y0 y1 hA hc ⊢
  obtain ⟨p, us⟩ := x
  have hcall := cloneAtom_any (p, us) a k _ W0 hA (fun b h => h) hc
  have HC := Lib.hid hcall
  have HB := Lib.hid hB
  have HR1 := Lib.hid hR1
  have HSZ := Lib.hid hsz
  have i1 : (i : Int) < (L.length : Int) := by omega
  have i2 : (0 : Int) ≤ (i : Int) := by omega
  clear hcall hB hR1 hsz b0 hb hR hA hc hx
  go_enter Tryz.func90, Tryz.ntmps90
  go_wp2_with (go_at_call 55; refine HC.out.mono ?_; rintro e w1 ⟨a2, c2, rfl, hb1, hA1⟩; have HB1 := Lib.hid hb1; have HA1 := Lib.hid hA1; have q1 := (hb1.block w.heap.size (by have := HSZ.out; omega)).trans HR1.out; have r0 := cells_at q1 0 _ rfl; have r1 := cells_at q1 1 _ rfl; have f0 := frozen_of_row w1 w.heap.size 0 _ _ q1; have f1 := frozen_of_row w1 w.heap.size 1 _ _ q1; have HQ1 := Lib.hid q1; clear hb1 hA1 q1 z0 y0 y1 HC)
  obtain ⟨W, hW⟩ : ∃ W, (w1.setCell ⟨w.heap.size, 0, none⟩ (.string p)).setCell ⟨w.heap.size, 1, none⟩ (.slice a2 us.length c2) = W := ⟨_, rfl⟩
  have hBw := HB.out.trans (HB1.out.mono HB.out.size)
  have hres : ∀ b, w.heap.size < b → W.heap[b]? = w1.heap[b]? := by
    intro b hb
    rw [← hW, heap_setCell_other _ _ _ _ (by simp; omega), heap_setCell_other _ _ _ _ (by simp; omega)]
  have hWs : W.heap.size = w1.heap.size := by rw [← hW]; simp
  have hBW : Below w.heap.size w W := by rw [← hW]; exact (hBw.setCell (p := ⟨w.heap.size, 0, none⟩) (by simp) _).setCell (p := ⟨w.heap.size, 1, none⟩) (by simp) _
  refine bodyPost_ret (v := .agg #[.string p, .slice a2 us.length c2]) (by simp [results, Tryz.f90, go_sem, r0, r1]) rfl ?_
  rw [hW]
  have hz := HSZ.out
  exact ⟨a2, c2, rfl, hBW, HA1.out.same (fun b h => ⟨by have := h.1; omega, by have := h.2; omega⟩) (fun b h => hres b (by have := h.1; omega))⟩
set_option maxRecDepth 100000 in
set_option maxHeartbeats 2000000 in
theorem at_any (B S : Nat) (lab : Lab) (L : List Ato) (i : Nat) (w : World) (hI : StI w B lab S L) (hi : i < L.length) :
    Calls Tryz.prog 19 #[.pointer (some ⟨S, 0, none⟩), .int .i64 i] w fun e w' => ∃ a c, e = .returned (.tuple #[.agg #[.string L[i].1, .slice a L[i].2.length c], .int .i64 0]) ∧ Below w.heap.size w w' ∧ AtS (NewS w w') w' (.string L[i].1) (.slice a L[i].2.length c) L[i] := by
  obtain ⟨W0, hW0⟩ : ∃ W0, w.alloc (.cells #[.string ⟨#[]⟩, .slice none 0 0] 24) = W0 := ⟨_, rfl⟩
  have hB : Below w.heap.size w W0 := by rw [← hW0]; exact (Below.refl _ w).alloc (Nat.le_refl _) _
  have hR1 : W0.heap[w.heap.size]? = some (.cells #[.string ⟨#[]⟩, .slice none 0 0] 24 (0, 0)) := by rw [← hW0]; exact World.alloc_heap_new _ _
  have hsz : W0.heap.size = w.heap.size + 1 := by rw [← hW0]; simp
  obtain ⟨la, lc, m1, m2, m3, h0, _, _, _, hl⟩ := hI.row
  have hS := (hB.block S (Array.getElem?_eq_some_iff.1 h0).1).trans h0
  have hgood := (hI.good L[i] (List.getElem_mem hi)).2
  obtain ⟨g, c, a, k, hlv, y0, y1, hA⟩ := (hl.read.below hB).at i hi
  cases hlv
  obtain ⟨x, hx⟩ : ∃ x, L[i] = x := ⟨_, rfl⟩
  rw [hx] at y0 y1 hA hgood ⊢
  obtain ⟨p, us⟩ := x
  have HM := Lib.hid (made_row S _ _ _ _ W0 hS)
  have HC := Lib.hid (cloneAtom_any (p, us) a k _ W0 hA (fun b h => h) hgood)
  have HB := Lib.hid hB
  have HR1 := Lib.hid hR1
  have HSZ := Lib.hid hsz
  have z0 := cells_at hS 0 _ rfl
  have i1 : (i : Int) < (L.length : Int) := by omega
  have i2 : (0 : Int) ≤ (i : Int) := by omega
  have i3 : ¬ ((i : Int) < 0) := by omega
  have i4 : ¬ ((L.length : Int) ≤ (i : Int)) := by omega
  clear hB hR1 hsz hA hx hl hgood hS h0 hI
  go_enter Tryz.func19, Tryz.ntmps19
  go_wp2_with (first | (go_at_call 50; refine HM.out.mono ?_; rintro e w1 ⟨rfl, rfl⟩) | (go_at_call 52; refine (count_any _ _ L.length _ rfl _).mono ?_; rintro e w1 ⟨rfl, rfl⟩) | (go_at_call 55; refine HC.out.mono ?_; rintro e w1 ⟨a2, c2, rfl, hb1, hA1⟩; have HB1 := Lib.hid hb1; have HA1 := Lib.hid hA1; have q1 := (hb1.block w.heap.size (by have := HSZ.out; omega)).trans HR1.out; have r0 := cells_at q1 0 _ rfl; have r1 := cells_at q1 1 _ rfl; have f0 := frozen_of_row w1 w.heap.size 0 _ _ q1; have f1 := frozen_of_row w1 w.heap.size 1 _ _ q1; have HQ1 := Lib.hid q1; clear hb1 hA1 q1 z0 y0 y1 HC))
  obtain ⟨W, hW⟩ : ∃ W, (w1.setCell ⟨w.heap.size, 0, none⟩ (.string p)).setCell ⟨w.heap.size, 1, none⟩ (.slice a2 us.length c2) = W := ⟨_, rfl⟩
  have hBw := HB.out.trans (HB1.out.mono HB.out.size)
  have hres : ∀ b, w.heap.size < b → W.heap[b]? = w1.heap[b]? := by
    intro b hb
    rw [← hW, heap_setCell_other _ _ _ _ (by simp; omega), heap_setCell_other _ _ _ _ (by simp; omega)]
  have hWs : W.heap.size = w1.heap.size := by rw [← hW]; simp
  have hBW : Below w.heap.size w W := by rw [← hW]; exact (hBw.setCell (p := ⟨w.heap.size, 0, none⟩) (by simp) _).setCell (p := ⟨w.heap.size, 1, none⟩) (by simp) _
  refine bodyPost_ret (v := .tuple #[.agg #[.string p, .slice a2 us.length c2], .int .i64 0]) (by simp [results, Tryz.f19, go_sem, r0, r1]) rfl ?_
  rw [hW]
  have hz := HSZ.out
  exact ⟨a2, c2, rfl, hBW, HA1.out.same (fun b h => ⟨by have := h.1; omega, by have := h.2; omega⟩) (fun b h => hres b (by have := h.1; omega))⟩

set_option maxRecDepth 100000 in
set_option maxHeartbeats 4000000 in
theorem collectA_any (bx : Nat) (lv : Value) (L : List Ato) (v0 : Value) (is : List Nat) (w : World) (hb : w.heap[bx]? = some (.cells #[lv] 52 (0, 0))) (hR : LstR w lv L) (hn : IntR w v0 is) (his : ∀ i ∈ is, i < L.length) (hlen : is.length ≤ 1000000) (hc : ∀ x ∈ L, cntA x ≤ 1000000) :
    Calls Tryz.prog 89 #[v0, .func (.func 90) #[] #[.pointer (some ⟨bx, 0, none⟩)]] w fun e w' => ∃ v, e = .returned v ∧ ResA w w' v (pickL L is) ∧ Below w.heap.size w w' := by
  have HG := Lib.hid (growA_any is.length hlen w)
  obtain ⟨a, cap, rfl⟩ := own_slice hn
  have HN := Lib.hid hn
  have HIS := Lib.hid his
  have HLR := Lib.hid hR
  have HBX := Lib.hid hb
  have HCN := Lib.hid hc
  clear hn his hR hb hc
  go_enter Tryz.func89, Tryz.ntmps89
  go_wp2_with (go_at_call 115; refine HG.out.mono ?_; rintro e w1 ⟨v1, rfl, ho1, hb1, _⟩)
  have hR1 : ResA w w1 v1 [] := ⟨[], fun _ => False, ho1, rfl, fun _ h => h.elim⟩
  have HR1 := Lib.hid hR1
  have HB1 := Lib.hid hb1
  clear ho1 hb1 hR1 HG
  go_loopw [5, 13] (fun v i wr => ∃ j : Nat, j ≤ is.length ∧ i = .int .i64 j ∧ ResA w wr v (pickL L (is.take j)) ∧ Below w.heap.size w wr) (fun _ i _ => is.length - (intOf i).toNat)
  case atStart => exact ⟨0, by omega, by go_num, by simpa [pickL] using HR1.out, HB1.out⟩
  case round =>
    obtain ⟨j, hj, rfl, hr, hbr⟩ := hrel
    obtain ⟨xs, S, ho, hf, hS⟩ := hr
    have hjl : (pickL L (is.take j)).length = j := by unfold pickL; rw [List.length_map, List.length_take]; omega
    rw [hjl] at ho
    obtain ⟨va, vc, rfl⟩ := own_slice ho
    have HO := Lib.hid ho
    have HF := Lib.hid hf
    have HS := Lib.hid hS
    have HBR := Lib.hid hbr
    have HJL := Lib.hid hjl
    have i1 : (0 : Int) ≤ (j : Int) := by omega
    clear ho hf hS hbr hjl
    by_cases hlt : j < is.length
    · have hnr := own_grown' HN.out HBR.out
      have hij := HIS.out is[j] (List.getElem_mem hlt)
      have htk := pickL_take L is j hlt hij
      have hcell : ∃ g, a = some ⟨g, 0, none⟩ ∧ wr.cell? ⟨g, j, none⟩ = some (.int .i64 (is[j] : Int)) := by
        rcases hnr.2 with ⟨e, h0⟩ | ⟨g, cap', cur, e, _⟩
        · omega
        · cases e
          have := hnr.cells (g := g) rfl j (.int .i64 (is[j] : Int)) (by simp [hlt])
          rw [Addr.add_lit] at this
          exact ⟨g, rfl, by simpa using this⟩
      obtain ⟨g, rfl, y0⟩ := hcell
      have hcall := pick1_any bx lv L is[j] wr ((HBR.out.block bx (Array.getElem?_eq_some_iff.1 HBX.out).1).trans HBX.out) (HLR.out.below HBR.out) hij (HCN.out _ (List.getElem_mem hij))
      obtain ⟨x, hx⟩ : ∃ x, L[is[j]] = x := ⟨_, rfl⟩
      rw [hx] at hcall htk
      obtain ⟨ii, hii⟩ : ∃ ii, is[j] = ii := ⟨_, rfl⟩
      simp only [hii] at hcall y0
      have HTK := Lib.hid htk
      have HC := Lib.hid hcall
      have i2 : (j : Int) < (is.length : Int) := by omega
      obtain ⟨p, us⟩ := x
      clear hnr hij htk hcall hx hii
      go_wp2_with fail
      refine HC.out.mono ?_
      rintro e w2 ⟨a2, c2, rfl, hb2, hT2⟩
      have HB3 := Lib.hid hb2
      have HT2 := Lib.hid hT2
      have HONE := Lib.hid (row2_one hT2)
      have HO3 := Lib.hid (own_grown' HO.out hb2)
      obtain ⟨i0, hi, hz0, hz1, hz2⟩ := info_parts' (show (Tryz.prog.info? 24).map (fun i => (i.zero, i.size, i.bytes)) = some (some (.agg #[.string ⟨#[]⟩, .slice none 0 0]), 2, 40) by kernel_rfl)
      clear hb2 hT2 y0 HC
      go_wp2_with (at_builtin; refine wpList_append_own_at _ rfl _ _ 26 rfl w.heap.size 24 i0 _ 2 40 Tryz.underlying26 hi hz0 hz1 hz2 rfl (by decide) (.slice va j vc) j xs rfl ?c0 _ 1 1 [.string p, .slice a2 us.length c2] rfl rfl ?c1 ?c2 ?c3 ?c4 ?c5 ?_)
      case c0 => exact own_grown' HO3.out ((Below.refl _ _).alloc (Nat.le_refl _) _)
      case c1 =>
        intro jj u' hu'
        have hn := World.alloc_heap_new w2 (.cells #[.string p, .slice a2 us.length c2] 24)
        rcases jj with _ | _ | jj
        · cases hu'; exact cells_at hn 0 _ rfl
        · cases hu'; exact cells_at hn 1 _ rfl
        · simp at hu'
      case c2 => exact HONE.out
      case c3 => unfold maxLen; omega
      case c4 => omega
      case c5 => have := HBR.out.size; have := HB3.out.size; simp; omega
      intro v' w' hown' hgrow _ hat
      have hbN : Below w2.heap.size w2 (w2.alloc (.cells #[.string p, .slice a2 us.length c2] 24)) := (Below.refl _ _).alloc (Nat.le_refl _) _
      have hbW : Below wr.heap.size wr (w2.alloc (.cells #[.string p, .slice a2 us.length c2] 24)) := HB3.out.trans (hbN.mono HB3.out.size)
      have hobl := own_block HO.out
      have hR' : ResA w w' v' (pickL L (is.take (j + 1))) := by
        rw [HTK.out]
        refine ResA.app (S := fun b => S b ∨ NewS wr w2 b) (v := .slice va j vc) (HF.out.same (fun _ h => Or.inl h) (fun b hb => hbW.block b (HS.out b hb).2.1)) ?_ (HT2.out.same (fun _ h => Or.inr h) (fun b hb => hbN.block b hb.2)) ?_ hgrow (by simpa using hat)
        · intro b hb
          have hsz : w2.heap.size ≤ (w2.alloc (.cells #[.string p, .slice a2 us.length c2] 24)).heap.size := hbN.size
          have hB := HBR.out.size
          have hB3 := HB3.out.size
          rcases hb with hb | ⟨h1, h2⟩
          · exact ⟨(HS.out b hb).1, by have := (HS.out b hb).2.1; omega, (HS.out b hb).2.2⟩
          · refine ⟨by omega, by omega, fun e => ?_⟩
            have := (hobl b e).2
            omega
        · rw [HJL.out]; exact hown'
      have hB' : Below w.heap.size w w' := (HBR.out.trans (hbW.mono HBR.out.size)).grown hgrow (by have := HBR.out.size; have := hbW.size; omega) (fun k e => (hobl k e).1)
      have HR2 := Lib.hid hR'
      have HB2 := Lib.hid hB'
      clear hR' hB' hown' hgrow hat hbN hbW hobl
      go_wp2
      go_roundw
      case rel => exact ⟨j + 1, by omega, by go_num, HR2.out, HB2.out⟩
      case measure => simp [intOf]; omega
    · have i2 : ¬ (j : Int) < (is.length : Int) := by omega
      have hje : j = is.length := by omega
      have hR : ResA w wr (.slice va j vc) (pickL L is) := ⟨xs, S, by rw [show (pickL L is).length = j by unfold pickL; rw [List.length_map]; omega]; exact HO.out, by have := HF.out; rwa [hje, List.take_of_length_le (Nat.le_refl _)] at this, HS.out⟩
      have HR := Lib.hid hR
      clear hR
      go_wp2
      go_ret
      exact ⟨_, rfl, by have := HR.out; rw [hje] at this; exact this, HBR.out⟩
set_option maxRecDepth 100000 in
set_option maxHeartbeats 1000000 in
theorem pick_any (lv : Value) (L : List Ato) (v0 : Value) (is : List Nat) (w : World) (hR : LstR w lv L) (hn : IntR w v0 is) (his : ∀ i ∈ is, i < L.length) (hlen : is.length ≤ 1000000) (hc : ∀ x ∈ L, cntA x ≤ 1000000) :
    Calls Tryz.prog 57 #[lv, v0] w fun e w' => ∃ v, e = .returned v ∧ ResA w w' v (pickL L is) ∧ Below w.heap.size w w' := by
  obtain ⟨xs, ho, hf⟩ := hR
  obtain ⟨la, lc, rfl⟩ := own_slice ho
  obtain ⟨a, cap, rfl⟩ := own_slice hn
  obtain ⟨W1, hW1⟩ : ∃ W1, w.alloc (.cells #[.slice la L.length lc] 52) = W1 := ⟨_, rfl⟩
  have hB : Below w.heap.size w W1 := by rw [← hW1]; exact (Below.refl _ w).alloc (Nat.le_refl _) _
  have hx : W1.heap[w.heap.size]? = some (.cells #[.slice la L.length lc] 52 (0, 0)) := by rw [← hW1]; exact World.alloc_heap_new _ _
  have HC := Lib.hid (collectA_any w.heap.size _ L _ is W1 hx (LstR.below ⟨xs, ho, hf⟩ hB) (own_grown' hn hB) his hlen hc)
  have HB := Lib.hid hB
  clear hx hB ho hf hn his hc
  go_enter Tryz.func57, Tryz.ntmps57
  go_wp2_with (go_at_call 89; refine HC.out.mono ?_; rintro e w2 ⟨v, rfl, hr, hb⟩; have HR := Lib.hid hr; have HB2 := Lib.hid hb; clear hr hb)
  go_ret
  exact ⟨v, rfl, HR.out.from HB.out.size, HB.out.trans (HB2.out.mono HB.out.size)⟩
end Go.Proofs.YtcoieohbmkjpoaaGreatDoor
namespace Go.Proofs.YtcoieohbmkjpoaaGreatDoor
open Go.RowKit Go.Shelf Go.Maps
attribute [local go_sem] Oper.semAt_some

theorem look_sig {w wx : World} {lab : Lab} {m n : Nat} {L : List Ato} (h : SigI w lab m n L) (hb : Below w.heap.size w wx) (g : Sig) (hg : SigOk g) :
    ∃ v, (Instr.lookup 54 (.map (some m)) (.agg #[.string g.1, .int .i64 g.2]) false).run Tryz.prog wx = .ok v wx ∧ IntR wx v (ix (qS g) L) := by
  obtain ⟨D, val, ho, _, hv⟩ := h
  obtain ⟨q1, q2, _⟩ := hv g hg
  obtain ⟨v, ps, hrun, hR⟩ := (ownsMap_same ho (hb.block m ho.lt)).lookup sig_keyed Tryz.underlying54 (zero_ints wx) (zd := .nil) (zp := []) rfl (sigK_of g hg)
  rw [q1] at hR
  rw [slE_inj (own_SlV q2) hR] at hrun
  exact ⟨_, hrun, own_grown' q2 hb⟩
theorem look_pla {w wx : World} {lab : Lab} {m n : Nat} {f : Pla → List Nat} (h : ArgI w lab m n f) (hb : Below w.heap.size w wx) (p : Pla) (hp : PlaOk p) :
    ∃ v, (Instr.lookup 55 (.map (some m)) (.agg #[.string p.1.1, .int .i64 p.1.2, .int .i64 p.2.1, .string p.2.2]) false).run Tryz.prog wx = .ok v wx ∧ IntR wx v (f p) := by
  obtain ⟨D, val, ho, _, hv⟩ := h
  obtain ⟨q1, q2, _⟩ := hv p hp
  obtain ⟨v, ps, hrun, hR⟩ := (ownsMap_same ho (hb.block m ho.lt)).lookup pla_keyed Tryz.underlying55 (zero_ints wx) (zd := .nil) (zp := []) rfl (plaK_of p hp)
  rw [q1] at hR
  rw [slE_inj (own_SlV q2) hR] at hrun
  exact ⟨_, hrun, own_grown' q2 hb⟩
def fInt (is : List Nat) : VF := fun v w => IntR w v is
theorem fInt_stays (is : List Nat) : Stays (fInt is) := fun _ _ _ h hb => own_grown' h hb
def fRes (W : World) (L : List Ato) : VF := fun v w => ResA W w v L
theorem fRes_stays (W : World) (L : List Ato) : Stays (fRes W L) := fun _ _ _ h hb => h.grow hb
set_option maxRecDepth 100000 in
set_option maxHeartbeats 4000000 in
theorem all_gen (sv : Value) (la : Option Addr) (ln lc : Nat) (m1 m2 m3 : Option Nat) (L : List Ato) (is : List Nat) (g : Sig) (w : World)
    (hct : ∀ w', Below w.heap.size w w' → Calls Tryz.prog 54 #[sv] w' fun e w'' => e = .returned (.agg #[.slice la ln lc, .map m1, .map m2, .map m3]) ∧ Below w'.heap.size w' w'')
    (hlr : LstR w (.slice la ln lc) L) (hlk : ∀ wx, Below w.heap.size w wx → ∃ v, (Instr.lookup 54 (.map m2) (.agg #[.string g.1, .int .i64 g.2]) false).run Tryz.prog wx = .ok v wx ∧ IntR wx v is) (his : ∀ i ∈ is, i < L.length) (hln : is.length ≤ 1000000) (hcn : ∀ x ∈ L, cntA x ≤ 1000000) :
    Calls Tryz.prog 22 #[sv, .agg #[.string g.1, .int .i64 g.2]] w fun e w' => ∃ v, e = .returned v ∧ ResA w w' v (pickL L is) ∧ Below w.heap.size w w' := by
  obtain ⟨p, n⟩ := g
  change Calls Tryz.prog 22 #[sv, .agg #[.string p, .int .i64 n]] w _
  obtain ⟨W1, hW1⟩ : ∃ W1, w.alloc (.cells #[.string p, .int .i64 n] 41) = W1 := ⟨_, rfl⟩
  have hB : Below w.heap.size w W1 := by rw [← hW1]; exact (Below.refl _ w).alloc (Nat.le_refl _) _
  have hg : W1.heap[w.heap.size]? = some (.cells #[.string p, .int .i64 n] 41 (0, 0)) := by rw [← hW1]; exact World.alloc_heap_new _ _
  have HCT := Lib.hid (hct W1 hB)
  have HB := Lib.hid hB
  have HG0 := Lib.hid hg
  have HLR0 := Lib.hid hlr
  have HLK := Lib.hid hlk
  have HIS := Lib.hid his
  have HLN := Lib.hid hln
  have HCN := Lib.hid hcn
  clear hct hlr hlk his hln hcn hB hg
  go_enter Tryz.func22, Tryz.ntmps22
  go_wp2_with (go_at_call 54; refine HCT.out.mono ?_; rintro e w1 ⟨rfl, hb⟩; have HB1 := Lib.hid hb; clear hb HCT)
  obtain ⟨BX, hBX⟩ : ∃ BX, w1.heap.size = BX := ⟨_, rfl⟩
  obtain ⟨W2, hW2⟩ : ∃ W2, w1.alloc (.cells #[.slice la ln lc, .map m1, .map m2, .map m3] 57) = W2 := ⟨_, rfl⟩
  have hb2 : Below w1.heap.size w1 W2 := by rw [← hW2]; exact (Below.refl _ _).alloc (Nat.le_refl _) _
  have hx : W2.heap[w1.heap.size]? = some (.cells #[.slice la ln lc, .map m1, .map m2, .map m3] 57 (0, 0)) := by rw [← hW2]; exact World.alloc_heap_new _ _
  have hbw : Below w.heap.size w W2 := (HB.out.trans (HB1.out.mono HB.out.size)).trans (hb2.mono (Nat.le_trans HB.out.size HB1.out.size))
  have HG := Lib.hid ((hb2.block w.heap.size (Nat.lt_of_lt_of_le (Array.getElem?_eq_some_iff.1 HG0.out).1 HB1.out.size)).trans ((HB1.out.block w.heap.size (Array.getElem?_eq_some_iff.1 HG0.out).1).trans HG0.out))
  have HLR := Lib.hid (HLR0.out.below hbw)
  have HBW := Lib.hid hbw
  rw [hBX] at hx
  have HX := Lib.hid hx
  try rw [hW2]
  try rw [hBX]
  clear hb2 hx hbw hW2 hBX
  have hst := @FL_grow [fV (.pointer (some ⟨BX, 0, none⟩)), fV (.slice la ln lc), fV (.pointer (some ⟨BX, 2, none⟩)), fV (.map m2), fV (.agg #[.string p, .int .i64 n]), fInt is, fRes W2 (pickL L is), fRes W2 (pickL L is)] (by
    intro F hF
    simp only [List.mem_cons, List.not_mem_nil, or_false] at hF
    rcases hF with rfl | rfl | rfl | rfl | rfl | rfl | rfl | rfl <;> first | exact fV_stays _ | exact fInt_stays _ | exact fRes_stays _ _ | exact fRes_stays _ _)
  refine wp_region_grow_orB (by kernel_rfl) (FL [fV (.pointer (some ⟨BX, 0, none⟩)), fV (.slice la ln lc), fV (.pointer (some ⟨BX, 2, none⟩)), fV (.map m2), fV (.agg #[.string p, .int .i64 n]), fInt is, fRes W2 (pickL L is), fRes W2 (pickL L is)]) hst (by kernel_rfl) (steps_or ?_) ?_
  · refine ⟨?_, ?_, ?_, ?_, ?_, ?_, ?_, ?_, trivial⟩
    · intro a wx hb hd hs ho hp
      refine Or.inl ⟨rfl, ?_⟩
      have h5 : a.tmps.getD 5 undef = .pointer (some ⟨BX, 0, none⟩) := (ho 5 (by kernel_rfl)).trans rfl
      unfold Oper.wp
      go_simp
      exact Stepped.at (v := .pointer (some ⟨BX, 0, none⟩)) (by first | rfl | simp) hd (Below.refl _ _) rfl
    · intro a wx hb hd hs ho hp
      refine Or.inl ⟨rfl, ?_⟩
      have h8 : a.tmps.getD 8 undef = .pointer (some ⟨BX, 0, none⟩) := facts_at hp 0 8 (by kernel_rfl)
      have hx := (hb.block BX (Array.getElem?_eq_some_iff.1 HX.out).1).trans HX.out
      have x0 := cells_at hx 0 _ rfl
      unfold Oper.wp
      go_simp
      exact Stepped.at (v := .slice la ln lc) (by first | rfl | simp) hd (Below.refl _ _) rfl
    · intro a wx hb hd hs ho hp
      refine Or.inl ⟨rfl, ?_⟩
      have h5 : a.tmps.getD 5 undef = .pointer (some ⟨BX, 0, none⟩) := (ho 5 (by kernel_rfl)).trans rfl
      unfold Oper.wp
      go_simp
      exact Stepped.at (v := .pointer (some ⟨BX, 2, none⟩)) (by first | rfl | simp) hd (Below.refl _ _) rfl
    · intro a wx hb hd hs ho hp
      refine Or.inl ⟨rfl, ?_⟩
      have h10 : a.tmps.getD 10 undef = .pointer (some ⟨BX, 2, none⟩) := facts_at hp 2 10 (by kernel_rfl)
      have hx := (hb.block BX (Array.getElem?_eq_some_iff.1 HX.out).1).trans HX.out
      have x2 := cells_at hx 2 _ rfl
      unfold Oper.wp
      go_simp
      exact Stepped.at (v := .map m2) (by first | rfl | simp) hd (Below.refl _ _) rfl
    · intro a wx hb hd hs ho hp
      refine Or.inl ⟨rfl, ?_⟩
      have h3 : a.tmps.getD 3 undef = .pointer (some ⟨w.heap.size, 0, none⟩) := (ho 3 (by kernel_rfl)).trans rfl
      have hx := (hb.block w.heap.size (Array.getElem?_eq_some_iff.1 HG.out).1).trans HG.out
      have s3 := qslot_of (hs.trans (rfl : _ = 15)) (by decide) h3
      have x0 := cells_at hx 0 _ rfl
      have x1 := cells_at hx 1 _ rfl
      unfold Oper.wp
      go_simp
      exact Stepped.at (v := .agg #[.string p, .int .i64 n]) (by first | rfl | simp) hd (Below.refl _ _) rfl
    · intro a wx hb hd hs ho hp
      refine Or.inl ⟨rfl, ?_⟩
      have h11 : a.tmps.getD 11 undef = .map m2 := facts_at hp 3 11 (by kernel_rfl)
      have h12 : a.tmps.getD 12 undef = .agg #[.string p, .int .i64 n] := facts_at hp 4 12 (by kernel_rfl)
      obtain ⟨v, hrun, hi⟩ := HLK.out wx (HBW.out.trans (hb.mono HBW.out.size))
      unfold Oper.wp
      go_simp
      refine Stepped.at (v := v) (by first | rfl | simp) hd (Below.refl _ _) ?_
      exact hi
    · intro a wx hb hd hs ho hp
      refine Or.inl ⟨rfl, ?_⟩
      have h9 : a.tmps.getD 9 undef = .slice la ln lc := facts_at hp 1 9 (by kernel_rfl)
      have hv := facts_at hp 5 13 (by kernel_rfl)
      obtain ⟨vv, hvv⟩ : ∃ u, a.tmps.getD 13 undef = u := ⟨_, rfl⟩
      rw [hvv] at hv
      have hx := pick_any (.slice la ln lc) L vv is wx (HLR.out.below hb) hv HIS.out HLN.out HCN.out
      unfold Oper.wp
      go_simp
      refine hx.mono ?_
      rintro e w9 ⟨v, rfl, hr9, hb9⟩
      refine Stepped.at (v := v) rfl hd hb9 ?_
      exact hr9.from hb.size
    · intro a wx hb hd hs ho hp
      refine Or.inl ⟨rfl, ?_⟩
      have hv := facts_at hp 6 14 (by kernel_rfl)
      obtain ⟨vv, h14⟩ : ∃ u, a.tmps.getD 14 undef = u := ⟨_, rfl⟩
      rw [h14] at hv
      unfold Oper.wp
      go_simp
      refine Stepped.at (v := vv) (by first | rfl | simp) hd (Below.refl _ _) ?_
      exact hv
  intro ac W3 hJ
  obtain ⟨u8, f8⟩ : ∃ u, ac.tmps.getD 8 undef = u := ⟨_, rfl⟩
  obtain ⟨u9, f9⟩ : ∃ u, ac.tmps.getD 9 undef = u := ⟨_, rfl⟩
  obtain ⟨u10, f10⟩ : ∃ u, ac.tmps.getD 10 undef = u := ⟨_, rfl⟩
  obtain ⟨u11, f11⟩ : ∃ u, ac.tmps.getD 11 undef = u := ⟨_, rfl⟩
  obtain ⟨u12, f12⟩ : ∃ u, ac.tmps.getD 12 undef = u := ⟨_, rfl⟩
  obtain ⟨u13, f13⟩ : ∃ u, ac.tmps.getD 13 undef = u := ⟨_, rfl⟩
  obtain ⟨u14, f14⟩ : ∃ u, ac.tmps.getD 14 undef = u := ⟨_, rfl⟩
  have g4 := hJ.at_end 7 4 (by kernel_rfl)
  obtain ⟨v4, f4⟩ : ∃ u, ac.tmps.getD 4 undef = u := ⟨_, rfl⟩
  rw [f4] at g4
  have hBelow := hJ.below
  obtain ⟨TT, DD⟩ := ac
  obtain rfl : DD = [] := hJ.defers
  have hE := slots_merge [false, false, false, false, true, false, false, false, true, true, true, true, true, true, true] 15 hJ.tmps rfl (by kernel_rfl) hJ.outer
  simp only [mergeFrom, Nat.zero_add, Nat.reduceAdd, f8, f9, f10, f11, f12, f13, f14, f4] at hE
  clear hst hJ f8 f9 f10 f11 f12 f13 f14 f4
  subst hE
  have HBE := Lib.hid (HBW.out.trans (hBelow.mono HBW.out.size))
  have HRE := Lib.hid (ResA.from g4 HBW.out.size)
  clear hBelow g4
  go_wp2
  go_ret
  exact ⟨v4, rfl, HRE.out, HBE.out⟩
set_option maxRecDepth 100000 in
set_option maxHeartbeats 4000000 in
theorem find_gen (sv : Value) (la : Option Addr) (ln lc : Nat) (m1 m2 m3 : Option Nat) (L : List Ato) (is : List Nat) (g : Sig) (arg : Int) (t : Tm) (c0 c1 c2 c3 : Value) (w : World)
    (hct : ∀ w', Below w.heap.size w w' → Calls Tryz.prog 54 #[sv] w' fun e w'' => e = .returned (.agg #[.slice la ln lc, .map m1, .map m2, .map m3]) ∧ Below w'.heap.size w' w'')
    (hlr : LstR w (.slice la ln lc) L) (hlk : ∀ wx, Below w.heap.size w wx → ∃ v, (Instr.lookup 55 (.map m3) (.agg #[.string g.1, .int .i64 g.2, .int .i64 arg, .string t.str]) false).run Tryz.prog wx = .ok v wx ∧ IntR wx v is) (his : ∀ i ∈ is, i < L.length) (hln : is.length ≤ 1000000) (hcn : ∀ x ∈ L, cntA x ≤ 1000000) (htm : IsTm w.heap.size w c0 c1 c2 c3 t) (htc : t.count ≤ 1000000) (hT : Tab10 w) :
    Calls Tryz.prog 24 #[sv, .agg #[.string g.1, .int .i64 g.2], .int .i64 arg, .agg #[c0, c1, c2, c3]] w fun e w' => ∃ v, e = .returned v ∧ ResA w w' v (pickL L is) ∧ Below w.heap.size w w' := by
  obtain ⟨p, n⟩ := g
  change Calls Tryz.prog 24 #[sv, .agg #[.string p, .int .i64 n], .int .i64 arg, .agg #[c0, c1, c2, c3]] w _
  obtain ⟨kk, nn, ss, ua, ul, uc, rfl, rfl, rfl, rfl⟩ := htm.cells4
  obtain ⟨TS, hTS⟩ : ∃ TS, t.str = TS := ⟨_, rfl⟩
  have HTS := Lib.hid hTS
  rw [hTS] at hlk
  obtain ⟨W1, hW1⟩ : ∃ W1, (w.alloc (.cells #[.string p, .int .i64 n] 41)).alloc (.cells #[.int .u8 kk, .int .i64 nn, .string ss, .slice ua ul uc] 46) = W1 := ⟨_, rfl⟩
  have hB : Below w.heap.size w W1 := by rw [← hW1]; exact ((Below.refl _ w).alloc (Nat.le_refl _) _).alloc (by simp) _
  have hg : W1.heap[w.heap.size]? = some (.cells #[.string p, .int .i64 n] 41 (0, 0)) := by rw [← hW1]; exact (Below.heap_alloc _ _ _ (by simp)).trans (World.alloc_heap_new _ _)
  have ht2 : W1.heap[w.heap.size + 1]? = some (.cells #[.int .u8 kk, .int .i64 nn, .string ss, .slice ua ul uc] 46 (0, 0)) := by
    rw [← hW1]; have := World.alloc_heap_new (w.alloc (.cells #[.string p, .int .i64 n] 41)) (.cells #[.int .u8 kk, .int .i64 nn, .string ss, .slice ua ul uc] 46); rwa [World.size_alloc] at this
  have HCT := Lib.hid (hct W1 hB)
  have HB := Lib.hid hB
  have HG0 := Lib.hid hg
  have HT20 := Lib.hid ht2
  have HLR0 := Lib.hid hlr
  have HLK := Lib.hid hlk
  have HIS := Lib.hid his
  have HLN := Lib.hid hln
  have HCN := Lib.hid hcn
  have HTM0 := Lib.hid htm
  have HTC := Lib.hid htc
  have HT0 := Lib.hid hT
  clear hct hlr hlk his hln hcn hB hg ht2 htm htc hT hTS
  go_enter Tryz.func24, Tryz.ntmps24
  go_wp2_with (go_at_call 54; refine HCT.out.mono ?_; rintro e w1 ⟨rfl, hb⟩; have HB1 := Lib.hid hb; clear hb HCT)
  obtain ⟨BX, hBX⟩ : ∃ BX, w1.heap.size = BX := ⟨_, rfl⟩
  obtain ⟨W2, hW2⟩ : ∃ W2, w1.alloc (.cells #[.slice la ln lc, .map m1, .map m2, .map m3] 57) = W2 := ⟨_, rfl⟩
  have hb2 : Below w1.heap.size w1 W2 := by rw [← hW2]; exact (Below.refl _ _).alloc (Nat.le_refl _) _
  have hx : W2.heap[w1.heap.size]? = some (.cells #[.slice la ln lc, .map m1, .map m2, .map m3] 57 (0, 0)) := by rw [← hW2]; exact World.alloc_heap_new _ _
  have hbw : Below w.heap.size w W2 := (HB.out.trans (HB1.out.mono HB.out.size)).trans (hb2.mono (Nat.le_trans HB.out.size HB1.out.size))
  have HG := Lib.hid ((hb2.block w.heap.size (Nat.lt_of_lt_of_le (Array.getElem?_eq_some_iff.1 HG0.out).1 HB1.out.size)).trans ((HB1.out.block w.heap.size (Array.getElem?_eq_some_iff.1 HG0.out).1).trans HG0.out))
  have HT2 := Lib.hid ((hb2.block (w.heap.size + 1) (Nat.lt_of_lt_of_le (Array.getElem?_eq_some_iff.1 HT20.out).1 HB1.out.size)).trans ((HB1.out.block (w.heap.size + 1) (Array.getElem?_eq_some_iff.1 HT20.out).1).trans HT20.out))
  have HLR := Lib.hid (HLR0.out.below hbw)
  have HTM := Lib.hid ((HTM0.out.below hbw).mono hbw.size)
  have HT10 := Lib.hid (HT0.out.below hbw)
  have HBW := Lib.hid hbw
  rw [hBX] at hx
  have HX := Lib.hid hx
  try rw [hW2]
  try rw [hBX]
  clear hb2 hx hbw hW2 hBX
  have hst := @FL_grow [fV (.pointer (some ⟨BX, 0, none⟩)), fV (.slice la ln lc), fV (.pointer (some ⟨BX, 3, none⟩)), fV (.map m3), fV (.agg #[.string p, .int .i64 n]), fV (.int .i64 arg), fV (.agg #[.int .u8 kk, .int .i64 nn, .string ss, .slice ua ul uc]), fV (.string TS), fV (.agg #[.string p, .int .i64 n, .int .i64 arg, .string TS]), fInt is, fRes W2 (pickL L is), fRes W2 (pickL L is)] (by
    intro F hF
    simp only [List.mem_cons, List.not_mem_nil, or_false] at hF
    rcases hF with rfl | rfl | rfl | rfl | rfl | rfl | rfl | rfl | rfl | rfl | rfl | rfl <;> first | exact fV_stays _ | exact fInt_stays _ | exact fRes_stays _ _ | exact fRes_stays _ _)
  refine wp_region_grow_orB (by kernel_rfl) (FL [fV (.pointer (some ⟨BX, 0, none⟩)), fV (.slice la ln lc), fV (.pointer (some ⟨BX, 3, none⟩)), fV (.map m3), fV (.agg #[.string p, .int .i64 n]), fV (.int .i64 arg), fV (.agg #[.int .u8 kk, .int .i64 nn, .string ss, .slice ua ul uc]), fV (.string TS), fV (.agg #[.string p, .int .i64 n, .int .i64 arg, .string TS]), fInt is, fRes W2 (pickL L is), fRes W2 (pickL L is)]) hst (by kernel_rfl) (steps_or ?_) ?_
  · refine ⟨?_, ?_, ?_, ?_, ?_, ?_, ?_, ?_, ?_, ?_, ?_, ?_, trivial⟩
    · intro a wx hb hd hs ho hp
      refine Or.inl ⟨rfl, ?_⟩
      have h9 : a.tmps.getD 9 undef = .pointer (some ⟨BX, 0, none⟩) := (ho 9 (by kernel_rfl)).trans rfl
      unfold Oper.wp
      go_simp
      exact Stepped.at (v := .pointer (some ⟨BX, 0, none⟩)) (by first | rfl | simp) hd (Below.refl _ _) rfl
    · intro a wx hb hd hs ho hp
      refine Or.inl ⟨rfl, ?_⟩
      have h12 : a.tmps.getD 12 undef = .pointer (some ⟨BX, 0, none⟩) := facts_at hp 0 12 (by kernel_rfl)
      have hx := (hb.block BX (Array.getElem?_eq_some_iff.1 HX.out).1).trans HX.out
      have x0 := cells_at hx 0 _ rfl
      unfold Oper.wp
      go_simp
      exact Stepped.at (v := .slice la ln lc) (by first | rfl | simp) hd (Below.refl _ _) rfl
    · intro a wx hb hd hs ho hp
      refine Or.inl ⟨rfl, ?_⟩
      have h9 : a.tmps.getD 9 undef = .pointer (some ⟨BX, 0, none⟩) := (ho 9 (by kernel_rfl)).trans rfl
      unfold Oper.wp
      go_simp
      exact Stepped.at (v := .pointer (some ⟨BX, 3, none⟩)) (by first | rfl | simp) hd (Below.refl _ _) rfl
    · intro a wx hb hd hs ho hp
      refine Or.inl ⟨rfl, ?_⟩
      have h14 : a.tmps.getD 14 undef = .pointer (some ⟨BX, 3, none⟩) := facts_at hp 2 14 (by kernel_rfl)
      have hx := (hb.block BX (Array.getElem?_eq_some_iff.1 HX.out).1).trans HX.out
      have x3 := cells_at hx 3 _ rfl
      unfold Oper.wp
      go_simp
      exact Stepped.at (v := .map m3) (by first | rfl | simp) hd (Below.refl _ _) rfl
    · intro a wx hb hd hs ho hp
      refine Or.inl ⟨rfl, ?_⟩
      have h5 : a.tmps.getD 5 undef = .pointer (some ⟨w.heap.size, 0, none⟩) := (ho 5 (by kernel_rfl)).trans rfl
      have hx := (hb.block w.heap.size (Array.getElem?_eq_some_iff.1 HG.out).1).trans HG.out
      have s5 := qslot_of (hs.trans (rfl : _ = 23)) (by decide) h5
      have x0 := cells_at hx 0 _ rfl
      have x1 := cells_at hx 1 _ rfl
      unfold Oper.wp
      go_simp
      exact Stepped.at (v := .agg #[.string p, .int .i64 n]) (by first | rfl | simp) hd (Below.refl _ _) rfl
    · intro a wx hb hd hs ho hp
      refine Or.inl ⟨rfl, ?_⟩
      have h2 : a.tmps.getD 2 undef = .int .i64 arg := (ho 2 (by kernel_rfl)).trans rfl
      unfold Oper.wp
      go_simp
      exact Stepped.at (v := .int .i64 arg) (by first | rfl | simp) hd (Below.refl _ _) rfl
    · intro a wx hb hd hs ho hp
      refine Or.inl ⟨rfl, ?_⟩
      have h7 : a.tmps.getD 7 undef = .pointer (some ⟨w.heap.size + 1, 0, none⟩) := (ho 7 (by kernel_rfl)).trans rfl
      have hx := (hb.block (w.heap.size + 1) (Array.getElem?_eq_some_iff.1 HT2.out).1).trans HT2.out
      have s7 := qslot_of (hs.trans (rfl : _ = 23)) (by decide) h7
      have x0 := cells_at hx 0 _ rfl
      have x1 := cells_at hx 1 _ rfl
      have x2 := cells_at hx 2 _ rfl
      have x3 := cells_at hx 3 _ rfl
      unfold Oper.wp
      go_simp
      exact Stepped.at (v := .agg #[.int .u8 kk, .int .i64 nn, .string ss, .slice ua ul uc]) (by first | rfl | simp) hd (Below.refl _ _) rfl
    · intro a wx hb hd hs ho hp
      refine Or.inl ⟨rfl, ?_⟩
      have h18 : a.tmps.getD 18 undef = .agg #[.int .u8 kk, .int .i64 nn, .string ss, .slice ua ul uc] := facts_at hp 6 18 (by kernel_rfl)
      have hx := str_any t _ _ _ _ wx ((HTM.out.below hb).mono hb.size) HTC.out (HT10.out.below hb)
      rw [HTS.out] at hx
      unfold Oper.wp
      go_simp
      refine (hx).mono ?_
      rintro e w9 ⟨rfl, hb9⟩
      exact Stepped.at (v := .string TS) rfl hd (hb9) rfl
    · intro a wx hb hd hs ho hp
      refine Or.inl ⟨rfl, ?_⟩
      have h16 : a.tmps.getD 16 undef = .agg #[.string p, .int .i64 n] := facts_at hp 4 16 (by kernel_rfl)
      have h17 : a.tmps.getD 17 undef = .int .i64 arg := facts_at hp 5 17 (by kernel_rfl)
      have h19 : a.tmps.getD 19 undef = .string TS := facts_at hp 7 19 (by kernel_rfl)
      have s16 := qslot_of (hs.trans (rfl : _ = 23)) (by decide) h16
      have s17 := qslot_of (hs.trans (rfl : _ = 23)) (by decide) h17
      have s19 := qslot_of (hs.trans (rfl : _ = 23)) (by decide) h19
      unfold Oper.wp
      go_simp
      exact Stepped.at (v := .agg #[.string p, .int .i64 n, .int .i64 arg, .string TS]) (by first | rfl | simp) hd (Below.refl _ _) rfl
    · intro a wx hb hd hs ho hp
      refine Or.inl ⟨rfl, ?_⟩
      have h15 : a.tmps.getD 15 undef = .map m3 := facts_at hp 3 15 (by kernel_rfl)
      have h20 : a.tmps.getD 20 undef = .agg #[.string p, .int .i64 n, .int .i64 arg, .string TS] := facts_at hp 8 20 (by kernel_rfl)
      obtain ⟨v, hrun, hi⟩ := HLK.out wx (HBW.out.trans (hb.mono HBW.out.size))
      unfold Oper.wp
      go_simp
      refine Stepped.at (v := v) (by first | rfl | simp) hd (Below.refl _ _) ?_
      exact hi
    · intro a wx hb hd hs ho hp
      refine Or.inl ⟨rfl, ?_⟩
      have h13 : a.tmps.getD 13 undef = .slice la ln lc := facts_at hp 1 13 (by kernel_rfl)
      have hv := facts_at hp 9 21 (by kernel_rfl)
      obtain ⟨vv, hvv⟩ : ∃ u, a.tmps.getD 21 undef = u := ⟨_, rfl⟩
      rw [hvv] at hv
      have hx := pick_any (.slice la ln lc) L vv is wx (HLR.out.below hb) hv HIS.out HLN.out HCN.out
      unfold Oper.wp
      go_simp
      refine hx.mono ?_
      rintro e w9 ⟨v, rfl, hr9, hb9⟩
      refine Stepped.at (v := v) rfl hd hb9 ?_
      exact hr9.from hb.size
    · intro a wx hb hd hs ho hp
      refine Or.inl ⟨rfl, ?_⟩
      have hv := facts_at hp 10 22 (by kernel_rfl)
      obtain ⟨vv, h22⟩ : ∃ u, a.tmps.getD 22 undef = u := ⟨_, rfl⟩
      rw [h22] at hv
      unfold Oper.wp
      go_simp
      refine Stepped.at (v := vv) (by first | rfl | simp) hd (Below.refl _ _) ?_
      exact hv
  intro ac W3 hJ
  obtain ⟨u12, f12⟩ : ∃ u, ac.tmps.getD 12 undef = u := ⟨_, rfl⟩
  obtain ⟨u13, f13⟩ : ∃ u, ac.tmps.getD 13 undef = u := ⟨_, rfl⟩
  obtain ⟨u14, f14⟩ : ∃ u, ac.tmps.getD 14 undef = u := ⟨_, rfl⟩
  obtain ⟨u15, f15⟩ : ∃ u, ac.tmps.getD 15 undef = u := ⟨_, rfl⟩
  obtain ⟨u16, f16⟩ : ∃ u, ac.tmps.getD 16 undef = u := ⟨_, rfl⟩
  obtain ⟨u17, f17⟩ : ∃ u, ac.tmps.getD 17 undef = u := ⟨_, rfl⟩
  obtain ⟨u18, f18⟩ : ∃ u, ac.tmps.getD 18 undef = u := ⟨_, rfl⟩
  obtain ⟨u19, f19⟩ : ∃ u, ac.tmps.getD 19 undef = u := ⟨_, rfl⟩
  obtain ⟨u20, f20⟩ : ∃ u, ac.tmps.getD 20 undef = u := ⟨_, rfl⟩
  obtain ⟨u21, f21⟩ : ∃ u, ac.tmps.getD 21 undef = u := ⟨_, rfl⟩
  obtain ⟨u22, f22⟩ : ∃ u, ac.tmps.getD 22 undef = u := ⟨_, rfl⟩
  have g8 := hJ.at_end 11 8 (by kernel_rfl)
  obtain ⟨v8, f8⟩ : ∃ u, ac.tmps.getD 8 undef = u := ⟨_, rfl⟩
  rw [f8] at g8
  have hBelow := hJ.below
  obtain ⟨TT, DD⟩ := ac
  obtain rfl : DD = [] := hJ.defers
  have hE := slots_merge [false, false, false, false, false, false, false, false, true, false, false, false, true, true, true, true, true, true, true, true, true, true, true] 23 hJ.tmps rfl (by kernel_rfl) hJ.outer
  simp only [mergeFrom, Nat.zero_add, Nat.reduceAdd, f12, f13, f14, f15, f16, f17, f18, f19, f20, f21, f22, f8] at hE
  clear hst hJ f12 f13 f14 f15 f16 f17 f18 f19 f20 f21 f22 f8
  subst hE
  have HBE := Lib.hid (HBW.out.trans (hBelow.mono HBW.out.size))
  have HRE := Lib.hid (ResA.from g8 HBW.out.size)
  clear hBelow g8
  go_wp2
  go_ret
  exact ⟨v8, rfl, HRE.out, HBE.out⟩
end Go.Proofs.YtcoieohbmkjpoaaGreatDoor
namespace Go.Proofs.YtcoieohbmkjpoaaGreatDoor
open Go.RowKit

theorem rank_q (k : Int) (w : World) (hk : 0 ≤ k ∧ k ≤ 255) : Calls Tryz.prog 81 #[.int .u8 k] w fun e w' => e = .returned (.int .i64 (rankI k)) ∧ w' = w := (rank_any k w hk).mono fun _ _ ⟨h, h'⟩ => ⟨h, h'.symm⟩
theorem compareString_q (s t : ByteArray) (w : World) : Calls Tryz.prog 44 #[.string s, .string t] w fun e w' => e = .returned (.int .i64 (strCmp s t)) ∧ w' = w := (compareString_any s t w).mono fun _ _ ⟨h, h'⟩ => ⟨h, h'.symm⟩

set_option maxRecDepth 100000 in
set_option maxHeartbeats 2000000 in
theorem compare_any (B : Nat) (t : Tm) : CmpAt B t := by
  induction t using Tm.ind with
  | h k n s us ih =>
    rintro ⟨k', n', s', us'⟩ c0 c1 c2 c3 d0 d1 d2 d3 W h1 h2 hB
    simp only [IsTm] at h1 h2
    obtain ⟨rfl, hk, rfl, hn, rfl, hs, a, cap, rfl, hl, hargs⟩ := h1
    obtain ⟨rfl, hk', rfl, hn', rfl, hs', a', cap', rfl, hl', hargs'⟩ := h2
    have HA := Lib.hid hargs; clear hargs
    have HA' := Lib.hid hargs'; clear hargs'
    have IH := Lib.hid ih; clear ih
    go_enter Tryz.func47, Tryz.ntmps47
    go_wp2_with fail
    go_quiet (first | (go_at_call 81; exact Calls.quiet_of_same (rank_q _ _ (by assumption))) | (go_at_call 45; exact Calls.quiet_of_same (Tryz.cmp_Compare_int _ _ _)))
    generalize hW1 : World.drewN _ _ = W1
    have hz1 : W1.heap.size = W.heap.size + 2 := by rw [← hW1]; show ((W.alloc _).alloc _).heap.size = _; simp
    have hB1 : Below W.heap.size W W1 := by
      rw [← hW1]
      have := (((Below.refl _ W).alloc (Nat.le_refl _) (.cells #[.int .u8 k, .int .i64 n, .string s, .slice a us.length cap] 46)).alloc (by simp) (.cells #[.int .u8 k', .int .i64 n', .string s', .slice a' us'.length cap'] 46))
      exact ⟨this.os, this.tape, this.output, this.size, this.block⟩
    have hx : W1.heap[W.heap.size]? = some (.cells #[.int .u8 k, .int .i64 n, .string s, .slice a us.length cap] 46 (0, 0)) := by
      rw [← hW1]; exact (Below.heap_alloc _ _ _ (by simp)).trans (World.alloc_heap_new W _)
    have hy : W1.heap[W.heap.size + 1]? = some (.cells #[.int .u8 k', .int .i64 n', .string s', .slice a' us'.length cap'] 46 (0, 0)) := by
      rw [← hW1]
      have := World.alloc_heap_new (W.alloc (.cells #[.int .u8 k, .int .i64 n, .string s, .slice a us.length cap] 46)) (.cells #[.int .u8 k', .int .i64 n', .string s', .slice a' us'.length cap'] 46)
      rw [World.size_alloc] at this; exact this
    have x0 := cells_at hx 0 _ rfl
    have x1 := cells_at hx 1 _ rfl
    have x2 := cells_at hx 2 _ rfl
    have x3 := cells_at hx 3 _ rfl
    have y0 := cells_at hy 0 _ rfl
    have y1 := cells_at hy 1 _ rfl
    have y2 := cells_at hy 2 _ rfl
    have y3 := cells_at hy 3 _ rfl
    have HX := Lib.hid hx
    have HY := Lib.hid hy
    clear hW1 hx hy
    have HZ1 := Lib.hid hz1; clear hz1
    have hc : Tm.cmp (.mk k n s us) (.mk k' n' s' us') = (if Lib.compareInt (rankI k) (rankI k') ≠ 0 then Lib.compareInt (rankI k) (rankI k')
      else if k = 1 ∧ n ≠ n' then Lib.compareInt n n'
      else if orI (Lib.compareInt us.length us'.length) (strCmp s s') ≠ 0 then orI (Lib.compareInt us.length us'.length) (strCmp s s')
      else if Tm.cmpL us us' ≠ 0 then Tm.cmpL us us'
      else Lib.compareInt n n') := by simp only [Tm.cmp]
    have HC := Lib.hid hc; clear hc
    by_cases hc1 : Lib.compareInt (rankI k) (rankI k') = 0
    · have HC1 := Lib.hid hc1
      have e1 : (Lib.compareInt (rankI k) (rankI k') != 0) = false := by simpa using hc1
      clear hc1
      by_cases hk1 : k = 1 ∧ n ≠ n'
      · obtain ⟨rfl, hnn⟩ := hk1
        have HNN := Lib.hid hnn
        have e2 : (n != n') = true := by simpa using hnn
        clear hnn
        go_wp2_with (go_at_call 45; refine (Tryz.cmp_Compare_int _ _ _).mono ?_; rintro e W2 ⟨rfl, rfl⟩)
        go_ret
        exact ⟨by rw [HC.out, if_neg (by simpa using HC1.out), if_pos (by simpa using HNN.out)]; rfl, hB1⟩
      · have HK1 := Lib.hid hk1
        have e3 : (k == 1) = false ∨ ((k == 1) = true ∧ (n != n') = false) := by
          by_cases e : k = 1
          · right; refine ⟨by simpa using e, ?_⟩
            have : n = n' := by
              by_cases h : n = n'
              · exact h
              · exact absurd ⟨e, h⟩ hk1
            simpa using this
          · left; simpa using e
        clear hk1
        rcases e3 with e3 | ⟨e3, e4⟩
        all_goals
          go_wp2_with fail
          go_still_tail 12, (by kernel_rfl)
          still_call (Tryz.cmp_Compare_int _ _ _)
          repeat still_step
          still_call (compareString_q _ _ _)
          refine wpStill_nil ?_
          change wpList _ _ _ _ _ W1.drew
          have hO := or_two W1.heap.size (Lib.compareInt us.length us'.length) (strCmp s s') 2 (W1.alloc (.cells #[.int .i64 (Lib.compareInt us.length us'.length), .int .i64 (strCmp s s')] 3)).drew
            (cells_at (World.alloc_heap_new W1 (.cells #[.int .i64 (Lib.compareInt us.length us'.length), .int .i64 (strCmp s s')] 3)) 0 _ rfl) (cells_at (World.alloc_heap_new W1 (.cells #[.int .i64 (Lib.compareInt us.length us'.length), .int .i64 (strCmp s s')] 3)) 1 _ rfl)
          have HO := Lib.hid hO; clear hO
          go_wp2_with (go_at_call 43; refine HO.out.mono ?_)
          clear HO
          rintro e W3' ⟨rfl, hW3⟩
          have hB3 : Below W.heap.size W W3' := by rw [← hW3]; exact (hB1.alloc (by rw [HZ1.out]; omega) _).drew
          have hz3 : W3'.heap.size = W.heap.size + 3 := by rw [← hW3]; show (W1.alloc _).heap.size = _; rw [World.size_alloc, HZ1.out]
          have hx : W3'.heap[W.heap.size]? = some (.cells #[.int .u8 k, .int .i64 n, .string s, .slice a us.length cap] 46 (0, 0)) := by
            rw [← hW3]; exact (Below.heap_alloc _ _ _ (by rw [HZ1.out]; omega)).trans HX.out
          have hy : W3'.heap[W.heap.size + 1]? = some (.cells #[.int .u8 k', .int .i64 n', .string s', .slice a' us'.length cap'] 46 (0, 0)) := by
            rw [← hW3]; exact (Below.heap_alloc _ _ _ (by rw [HZ1.out]; omega)).trans HY.out
          clear hW3 HX HY x0 x1 x2 x3 y0 y1 y2 y3
          have x3 := cells_at hx 3 _ rfl
          have y3 := cells_at hy 3 _ rfl
          have HX := Lib.hid hx
          have HY := Lib.hid hy
          have HZ3 := Lib.hid hz3
          clear hx hy hz3
          by_cases hor : orI (Lib.compareInt us.length us'.length) (strCmp s s') = 0
          · have HOR := Lib.hid hor
            have e5 : (orI (Lib.compareInt us.length us'.length) (strCmp s s') != 0) = false := by simpa using hor
            clear hor
            have hF := compareFunc_any B us us' IH.out a a' cap cap' W3' (by rw [HZ3.out]; omega) hl hl'
              (fun h => by obtain ⟨b, off, h1, h2, h3⟩ := HA.out h; exact ⟨b, off, h1, h2, h3.below (hB3.mono hB) h2⟩)
              (fun h => by obtain ⟨b, off, h1, h2, h3⟩ := HA'.out h; exact ⟨b, off, h1, h2, h3.below (hB3.mono hB) h2⟩)
            have HF := Lib.hid hF; clear hF
            go_wp2_with (go_at_call 46; refine HF.out.mono ?_)
            clear HF
            rintro e W4 ⟨rfl, hB4⟩
            have hx := (hB4.block _ (by rw [HZ3.out]; omega)).trans HX.out
            have hy := (hB4.block _ (by rw [HZ3.out]; omega)).trans HY.out
            have x1 := cells_at hx 1 _ rfl
            have y1 := cells_at hy 1 _ rfl
            have hBf : Below W.heap.size W W4 := hB3.trans (hB4.mono (by rw [HZ3.out]; omega))
            clear hx hy hB4
            by_cases hcf : Tm.cmpL us us' = 0
            · have HCF := Lib.hid hcf
              have e6 : (Tm.cmpL us us' != 0) = false := by simpa using hcf
              clear hcf
              go_wp2_with (go_at_call 45; refine (Tryz.cmp_Compare_int _ _ _).mono ?_; rintro e W5 ⟨rfl, rfl⟩)
              go_ret
              exact ⟨by rw [HC.out, if_neg (by simpa using HC1.out), if_neg HK1.out, if_neg (by simpa using HOR.out), if_neg (by simpa using HCF.out)]; rfl, hBf⟩
            · have HCF := Lib.hid hcf
              have e6 : (Tm.cmpL us us' != 0) = true := by simpa using hcf
              clear hcf
              go_wp2
              go_ret
              exact ⟨by rw [HC.out, if_neg (by simpa using HC1.out), if_neg HK1.out, if_neg (by simpa using HOR.out), if_pos HCF.out]; rfl, hBf⟩
          · have HOR := Lib.hid hor
            have e5 : (orI (Lib.compareInt us.length us'.length) (strCmp s s') != 0) = true := by simpa using hor
            clear hor
            go_wp2
            go_ret
            exact ⟨by rw [HC.out, if_neg (by simpa using HC1.out), if_neg HK1.out, if_pos HOR.out]; rfl, hB3⟩
    · have HC1 := Lib.hid hc1
      have e1 : (Lib.compareInt (rankI k) (rankI k') != 0) = true := by simpa using hc1
      clear hc1
      go_wp2
      go_ret
      exact ⟨by rw [HC.out, if_pos HC1.out]; rfl, hB1⟩
end Go.Proofs.YtcoieohbmkjpoaaGreatDoor
namespace Go.Proofs.YtcoieohbmkjpoaaGreatDoor
open Go.RowKit

/-- A world that has grown, and drawn. -/
structure Grew (w w' : World) : Prop where
  low : Below w.heap.size w w'
  drawn : w.drawn ≤ w'.drawn
theorem Grew.refl (w : World) : Grew w w := ⟨Below.refl _ _, Nat.le_refl _⟩
theorem Grew.trans {x y z : World} (h : Grew x y) (k : Grew y z) : Grew x z := ⟨h.low.trans (k.low.mono h.low.size), Nat.le_trans h.drawn k.drawn⟩
theorem Grew.alloc (w : World) (o : Obj) : Grew w (w.alloc o) := ⟨(Below.refl _ _).alloc (Nat.le_refl _) _, Nat.le_refl _⟩
theorem Grew.drew (w : World) : Grew w w.drew := ⟨(Below.refl _ _).drew, Nat.le_succ _⟩
theorem Grew.grow {w w' : World} (h : Grew w w') : ∃ q os, w' = Go.Sort.grow (w.drewN q) os := by
  obtain ⟨⟨h1, h2, h3, h4, h5⟩, h6⟩ := h
  refine ⟨w'.drawn - w.drawn, w'.heap.extract w.heap.size w'.heap.size, ?_⟩
  have hh : w'.heap = w.heap ++ w'.heap.extract w.heap.size w'.heap.size := by
    apply Array.ext
    · simp; omega
    · intro i q1 q2
      by_cases hi : i < w.heap.size
      · have := h5 i hi
        rw [Array.getElem?_eq_getElem hi, Array.getElem?_eq_getElem q1] at this
        rw [Array.getElem_append_left hi]
        exact Option.some.inj this
      · rw [Array.getElem_append_right (by omega)]
        simp only [Array.getElem_extract]
        congr 1
        omega
  cases w'
  cases w
  simp only [Go.Sort.grow, World.drewN] at *
  subst h1 h2 h3
  rw [← hh]
  congr 1
  omega
def SteppedW (Φ : Facts) (i : Nat) (o : Oper) (a : Act) (w : World) (a' : Act) (w' : World) : Prop := ∃ v, a' = a.put o.dst v ∧ Grew w w' ∧ ∀ d, o.dst = some d → Φ i v w'
theorem SteppedW.at {Φ : Facts} {i : Nat} {o : Oper} {a : Act} {w w' : World} {v : Value} {tm : Array Value} {df : List Deferred} (hv : tm = (a.put o.dst v).tmps) (hf : a.defers = df) (hb : Grew w w') (hΦ : Φ i v w') : SteppedW Φ i o a w ⟨tm, df⟩ w' := by
  refine ⟨v, ?_, hb, fun _ _ => hΦ⟩
  subst hv hf
  cases o.dst <;> rfl
structure HeadInvTW (ops : Array Oper) (n : Nat) (Φ : Facts) (a0 : Act) (w0 : World) (listed : Array Bool) (a : Act) (w : World) : Prop where
  below : Grew w0 w
  defers : a.defers = a0.defers
  tmps : a.tmps.size = a0.tmps.size
  outer : ∀ t, noDstTo ops n t = true → a.tmps.getD t undef = a0.tmps.getD t undef
  facts : ∀ i o d, ops[i]? = some o → i < n → listed.getD i false = true → o.dst = some d → Φ i (a.tmps.getD d undef) w

/-- What an operation of the head owes. -/
def StepToW (P : Program) (ops : Array Oper) (n : Nat) (Q : Exit → Act → World → Prop) (Φ : Facts) (a0 : Act) (w0 : World) (i : Nat) (o : Oper) : Prop :=
  ∀ a w, Grew w0 w → a.defers = a0.defers → a.tmps.size = a0.tmps.size →
    (∀ t, noDstTo ops n t = true → a.tmps.getD t undef = a0.tmps.getD t undef) →
    (∀ j oj d, waitsFor o j = true → ops[j]? = some oj → oj.dst = some d → Φ j (a.tmps.getD d undef) w) →
    Region.wanted o (yielded ops a.tmps) = true ∧ o.wp P a w (SteppedW Φ i o a w) Q

theorem HeadInvTW.put {ops : Array Oper} {n : Nat} {Φ : Facts} {a0 : Act} {w0 : World} (hst : ∀ i v w w', Φ i v w → Below w.heap.size w w' → Φ i v w') (hok : regionOk ops a0.tmps.size = true)
    {listed : Array Bool} {a : Act} {w : World} (hJ : HeadInvTW ops n Φ a0 w0 listed a w) {i : Nat} {o : Oper} (hin : i < n) (ho : ops[i]? = some o) {v : Value} {w' : World} (hb : Grew w w') (hv : ∀ d, o.dst = some d → Φ i v w') :
    HeadInvTW ops n Φ a0 w0 (listed.setIfInBounds i true) (a.put o.dst v) w' := by
  refine ⟨hJ.below.trans hb, ?_, ?_, ?_, ?_⟩
  · rw [← hJ.defers]; cases o.dst <;> rfl
  · rw [← hJ.tmps]; cases o.dst <;> simp [Act.put]
  · intro t ht
    rw [← hJ.outer t ht]
    cases hd : o.dst with
    | none => rfl
    | some d =>
      have hne : d ≠ t := fun e => noDstTo_spec ht i hin o ho (by rw [hd, e])
      simp [Act.put, Array.getD_eq_getD_getElem?, Array.getElem?_setIfInBounds_ne hne]
  · intro j oj d hoj hjn hlj hd
    by_cases hji : j = i
    · subst hji
      obtain rfl : oj = o := by rw [ho] at hoj; exact (Option.some.inj hoj).symm
      have hdn := ((regionOk_spec hok j oj ho).2 d hd).1
      rw [hd]
      have e : (a.put (some d) v).tmps.getD d undef = v := by
        have : d < a.tmps.size := by rw [hJ.tmps]; exact hdn
        simp [Act.put, Array.getD_eq_getD_getElem?, this]
      rw [e]
      exact hv d hd
    · have hlj' : listed.getD j false = true := by
        simpa [Array.getD_eq_getD_getElem?, Array.getElem?_setIfInBounds_ne (fun e => hji e.symm)] using hlj
      have hf0 := hst _ _ _ _ (hJ.facts j oj d hoj hjn hlj' hd) hb.low
      cases hd' : o.dst with
      | none => exact hf0
      | some d' =>
        have hne : d' ≠ d := by
          intro e
          subst e
          rcases Nat.lt_or_gt_of_ne hji with h | h
          · exact ((regionOk_spec hok i o ho).2 d' hd').2 j oj h hoj hd
          · exact ((regionOk_spec hok j oj hoj).2 d' hd).2 i o h ho hd'
        simpa [Act.put, Array.getD_eq_getD_getElem?, Array.getElem?_setIfInBounds_ne hne] using hf0

/-- The rule. -/
theorem wp_region_grow_tailW {P : Program} {ops : Array Oper} {Q : Exit → Act → World → Prop} {id : Nat} {a0 : Act} {w0 : World} (hm : P.follows .mixedOrders = true) (n : Nat) (Φ : Facts) (hst : ∀ i v w w', Φ i v w → Below w.heap.size w w' → Φ i v w')
    (hok : regionOk ops a0.tmps.size = true) (htl : tailOk ops n = true)
    (step : ∀ i o, ops[i]? = some o → i < n → StepToW P ops n Q Φ a0 w0 i o)
    (tail : ∀ a w, Grew w0 w → a.defers = a0.defers → a.tmps.size = a0.tmps.size → (∀ t, noDstTo ops n t = true → a.tmps.getD t undef = a0.tmps.getD t undef) →
      (∀ i o d, ops[i]? = some o → i < n → o.dst = some d → Φ i (a.tmps.getD d undef) w) → wpList P ops Q (ops.toList.drop n) a w) : (Code.region id ops true).wp P Q a0 w0 := by
  have hlt := tailOk_lt htl
  have hcons : ∀ k o, ops[k]? = some o → ops.toList.drop k = o :: ops.toList.drop (k + 1) := by
    intro k o ho
    have hk := (Array.getElem?_eq_some_iff.1 ho).1
    rw [List.drop_eq_getElem_cons (by simpa using hk)]
    congr 1
    have := (Array.getElem?_eq_some_iff.1 ho).2
    simpa using this
  refine wp_region_any hm (wpAny_inv hok (fun l a w => l.size = ops.size ∧ ListedOk ops l ∧ (((∀ j, n ≤ j → l.getD j false = false) ∧ HeadInvTW ops n Φ a0 w0 l a w) ∨
    ∃ k, n < k ∧ (∀ j, j < k → j < ops.size → l.getD j false = true) ∧ (∀ j, k ≤ j → l.getD j false = false) ∧ wpList P ops Q (ops.toList.drop k) a w)) (fun _ _ _ h => h.1) ?_ ?_ ops.size _ a0 _ ⟨by simp, ?_, Or.inl ⟨?_, ?_⟩⟩ ?_)
  · rintro l a w i o ⟨hls, hcl, hJ⟩ hil ho hie
    have hi' : i < ops.size := (Array.getElem?_eq_some_iff.1 ho).1
    have hil' : l.getD i false = false := by rw [← getD_true_false (by omega)]; exact hil
    have hcl' := hcl.set hls ho hie
    have hall : n ≤ i → ∀ j, j < i → l.getD j false = true := fun hni j hj => waits_listed hcl j ops.size i o ho hie (tailOk_spec htl i hi' hni j hj)
    rcases hJ with ⟨hun, hJ⟩ | ⟨k, hnk, hlk, huk, hwp⟩
    · by_cases hin : i < n
      · obtain ⟨hw, hwp⟩ := step i o ho hin a w hJ.below hJ.defers hJ.tmps hJ.outer (fun j oj d hwt hoj hd => by
          obtain ⟨e, he, hej, hb⟩ := waitsFor_spec hwt
          have hji : j < i := by rw [← hej]; exact (regionOk_spec hok i o ho).1 e he
          exact hJ.facts j oj d hoj (by omega) (hej ▸ hie e he hb) hd)
        unfold wpOp
        simp only [ho, hw, if_true]
        refine Or.inl (Oper.wp_mono ?_ hwp)
        rintro a' w' ⟨v, rfl, hb, hv⟩
        exact ⟨by simp [hls], hcl', Or.inl ⟨fun j hj => by rw [getD_set_ne (by omega)]; exact hun j hj, hJ.put hst hok hin ho hb hv⟩⟩
      · have hin' : i = n := by
          by_cases e : i = n
          · exact e
          · have h1 := hall (by omega) n (by omega)
            rw [hun n (Nat.le_refl _)] at h1; cases h1
        subst hin'
        have H := tail a w hJ.below hJ.defers hJ.tmps hJ.outer (fun j oj d hoj hj hd => hJ.facts j oj d hoj hj (hall (Nat.le_refl _) j hj) hd)
        rw [hcons i o ho] at H
        have H' : wpOp P ops Q i (wpList P ops Q (ops.toList.drop (i + 1))) a w := by
          unfold wpOp
          simp only [ho]
          exact H
        refine wpOp_mono ?_ H'
        intro a' w' hQ
        refine ⟨by simp [hls], hcl', Or.inr ⟨i + 1, by omega, fun j hj hjs => ?_, fun j hj => by rw [getD_set_ne (by omega)]; exact hun j (by omega), hQ⟩⟩
        by_cases e : j = i
        · subst e; simp [Array.getD_eq_getD_getElem?, hls, hi']
        · rw [getD_set_ne e]; exact hall (Nat.le_refl _) j (by omega)
    · have hik : i = k := by
        have h1 : k ≤ i := by
          by_cases e : k ≤ i
          · exact e
          · have := hlk i (by omega) hi'
            rw [hil'] at this; cases this
        by_cases e : i = k
        · exact e
        · have h2 := hall (by omega) k (by omega)
          rw [huk k (Nat.le_refl _)] at h2; cases h2
      subst hik
      rw [hcons i o ho] at hwp
      have H' : wpOp P ops Q i (wpList P ops Q (ops.toList.drop (i + 1))) a w := by
        unfold wpOp
        simp only [ho]
        exact hwp
      refine wpOp_mono ?_ H'
      intro a' w' hQ
      refine ⟨by simp [hls], hcl', Or.inr ⟨i + 1, by omega, fun j hj hjs => ?_, fun j hj => by rw [getD_set_ne (by omega)]; exact huk j (by omega), hQ⟩⟩
      by_cases e : j = i
      · subst e; simp [Array.getD_eq_getD_getElem?, hls, hi']
      · rw [getD_set_ne e]; exact hlk j (by omega) hjs
  · rintro a w ⟨_, _, ⟨hun, _⟩ | ⟨k, _, _, huk, hwp⟩⟩
    · have := hun n (Nat.le_refl _)
      simp [Array.getD_eq_getD_getElem?, hlt] at this
    · have hk : ops.size ≤ k := by
        by_cases e : ops.size ≤ k
        · exact e
        · have := huk k (Nat.le_refl _)
          simp [Array.getD_eq_getD_getElem?, show k < ops.size by omega] at this
      rw [List.drop_eq_nil_of_le (by simpa using hk)] at hwp
      exact hwp
  · intro i o ho hl
    have hi := (Array.getElem?_eq_some_iff.1 ho).1
    simp [Array.getD_eq_getD_getElem?, hi] at hl
  · intro j _
    by_cases hj : j < ops.size <;> simp [Array.getD_eq_getD_getElem?, hj]
  · refine ⟨Grew.drew w0, rfl, rfl, fun _ _ => rfl, ?_⟩
    intro i o d ho _ hl _
    have hi := (Array.getElem?_eq_some_iff.1 ho).1
    simp [Array.getD_eq_getD_getElem?, hi] at hl
  · exact Nat.le_trans (List.length_filter_le _ _) (by simp)

/-- The steps of the head, one after the other. -/
def StepsToW (P : Program) (ops : Array Oper) (n : Nat) (Q : Exit → Act → World → Prop) (Φ : Facts) (a0 : Act) (w0 : World) : Nat → List Oper → Prop
  | _, [] => True
  | i, o :: r => StepToW P ops n Q Φ a0 w0 i o ∧ StepsToW P ops n Q Φ a0 w0 (i + 1) r
theorem stepsTo_getW {P : Program} {ops : Array Oper} {n : Nat} {Q : Exit → Act → World → Prop} {Φ : Facts} {a0 : Act} {w0 : World} : ∀ {l : List Oper} {k : Nat}, StepsToW P ops n Q Φ a0 w0 k l → ∀ i o, l[i]? = some o → StepToW P ops n Q Φ a0 w0 (k + i) o
  | [], _, _, i, o, h => by simp at h
  | x :: r, k, hs, i, o, h => by
    cases i with
    | zero => simp at h; subst h; exact hs.1
    | succ i =>
      have := stepsTo_getW hs.2 i o (by simpa using h)
      rwa [show k + 1 + i = k + (i + 1) by omega] at this
theorem steps_toW {P : Program} {ops : Array Oper} {n : Nat} {Q : Exit → Act → World → Prop} {Φ : Facts} {a0 : Act} {w0 : World} (H : StepsToW P ops n Q Φ a0 w0 0 (ops.toList.take n)) : ∀ i o, ops[i]? = some o → i < n → StepToW P ops n Q Φ a0 w0 i o := by
  intro i o ho hi
  have := stepsTo_getW H i o (by rw [List.getElem?_take_of_lt hi]; simpa using ho)
  rwa [Nat.zero_add] at this
theorem facts_toW {ops : Array Oper} {n : Nat} {Φ : Facts} {a : Act} {w : World} (hp : ∀ i o d, ops[i]? = some o → i < n → o.dst = some d → Φ i (a.tmps.getD d undef) w) (j d : Nat) (hj : j < n) (h : dstAt ops j d = true) : Φ j (a.tmps.getD d undef) w := by
  obtain ⟨oj, h1, h2⟩ := dstAt_spec h
  exact hp j oj d h1 hj h2

end Go.Proofs.YtcoieohbmkjpoaaGreatDoor
namespace Go.Proofs.YtcoieohbmkjpoaaGreatDoor
open Go.RowKit

def CmpAtG (B : Nat) (t : Tm) : Prop := ∀ (t' : Tm) (c0 c1 c2 c3 d0 d1 d2 d3 : Value) (W : World), IsTm B W c0 c1 c2 c3 t → IsTm B W d0 d1 d2 d3 t' → B ≤ W.heap.size →
  Calls Tryz.prog 47 #[.agg #[c0, c1, c2, c3], .agg #[d0, d1, d2, d3]] W fun e w' => e = .returned (.int .i64 (Tm.cmp t t')) ∧ Below W.heap.size W w' ∧ W.drawn ≤ w'.drawn

set_option maxRecDepth 100000 in
set_option maxHeartbeats 2000000 in
theorem compareFunc_g (B : Nat) (us bs : List Tm) (ih : ∀ t ∈ us, CmpAtG B t) (a b : Option Addr) (capa capb : Nat) (w : World) (hw : B ≤ w.heap.size) (hla : us.length ≤ maxLen) (_hlb : bs.length ≤ maxLen)
    (ha : us ≠ [] → ∃ b off, a = some ⟨b, off, none⟩ ∧ b < B ∧ IsTms B w b off us) (hb : bs ≠ [] → ∃ b' off, b = some ⟨b', off, none⟩ ∧ b' < B ∧ IsTms B w b' off bs) :
    Calls Tryz.prog 46 #[.slice a us.length capa, .slice b bs.length capb, .func (.func 47) #[] #[]] w
      fun e w' => e = .returned (.int .i64 (Tm.cmpL us bs)) ∧ Below w.heap.size w w' ∧ w.drawn ≤ w'.drawn := by
  unfold maxLen at hla
  have HA := Lib.hid ha; clear ha
  have HB := Lib.hid hb; clear hb
  have IH := Lib.hid ih; clear ih
  go_enter Tryz.func46, Tryz.ntmps46
  go_wp2
  go_loopw [13] (fun i wr => ∃ j : Nat, j ≤ us.length ∧ j ≤ bs.length ∧ i = .int .i64 j ∧ Below w.heap.size w wr ∧ w.drawn ≤ wr.drawn ∧ Hid (Tm.cmpL us bs = Tm.cmpL (us.drop j) (bs.drop j))) (fun i _ => us.length - (intOf i).toNat)
  case atStart => exact ⟨0, Nat.zero_le _, Nat.zero_le _, rfl, Below.refl _ _, Nat.le_refl _, rfl⟩
  case round =>
    obtain ⟨j, hja, hjb, rfl, hB, hdr, HC⟩ := hrel
    have HDR := Lib.hid hdr
    clear hdr
    by_cases hlt : j < us.length
    · obtain ⟨b1, off, rfl, hb1, hI1⟩ := HA.out (by intro e; rw [e] at hlt; simp at hlt)
      obtain ⟨c0, c1, c2, c3, e0, e1, e2, e3, hc4⟩ := hI1.at j hlt
      have hBB := hB.mono hw
      have g0 := (hBB.cell (p := ⟨b1, off + j * 4, none⟩) hb1).trans e0
      have g1 := (hBB.cell (p := ⟨b1, off + j * 4 + 1, none⟩) hb1).trans e1
      have g2 := (hBB.cell (p := ⟨b1, off + j * 4 + 2, none⟩) hb1).trans e2
      have g3 := (hBB.cell (p := ⟨b1, off + j * 4 + 3, none⟩) hb1).trans e3
      have hd1 := hc4.below hBB
      obtain ⟨k', n', s', as', hq⟩ : ∃ k' n' s' as', us[j] = .mk k' n' s' as' := by cases us[j]; exact ⟨_, _, _, _, rfl⟩
      have HQ := Lib.hid hq
      rw [hq] at hc4
      simp only [IsTm] at hc4
      obtain ⟨rfl, _, rfl, _, rfl, _, a', cap', rfl, _, _⟩ := hc4
      have hda : us.drop j = us[j] :: us.drop (j + 1) := List.drop_eq_getElem_cons hlt
      have HDA := Lib.hid hda; clear hda
      have HD1 := Lib.hid hd1
      clear e0 e1 e2 e3 hq hd1
      by_cases hltb : j < bs.length
      · obtain ⟨b2, off2, rfl, hb2, hI2⟩ := HB.out (by intro e; rw [e] at hltb; simp at hltb)
        obtain ⟨d0, d1, d2, d3, e0, e1, e2, e3, hc4⟩ := hI2.at j hltb
        have k0 := (hBB.cell (p := ⟨b2, off2 + j * 4, none⟩) hb2).trans e0
        have k1 := (hBB.cell (p := ⟨b2, off2 + j * 4 + 1, none⟩) hb2).trans e1
        have k2 := (hBB.cell (p := ⟨b2, off2 + j * 4 + 2, none⟩) hb2).trans e2
        have k3 := (hBB.cell (p := ⟨b2, off2 + j * 4 + 3, none⟩) hb2).trans e3
        have hd2 := hc4.below hBB
        obtain ⟨k'', n'', s'', as'', hq2⟩ : ∃ k' n' s' as', bs[j] = .mk k' n' s' as' := by cases bs[j]; exact ⟨_, _, _, _, rfl⟩
        have HQ2 := Lib.hid hq2
        rw [hq2] at hc4
        simp only [IsTm] at hc4
        obtain ⟨rfl, _, rfl, _, rfl, _, a'', cap'', rfl, _, _⟩ := hc4
        have hdb : bs.drop j = bs[j] :: bs.drop (j + 1) := List.drop_eq_getElem_cons hltb
        have HDB := Lib.hid hdb; clear hdb
        have HD2 := Lib.hid hd2
        clear e0 e1 e2 e3 hq2 hd2
        have hlt1 : b1 < wr.heap.size := by have := hB.size; omega
        have hlt2 : b2 < wr.heap.size := by have := hB.size; omega
        have hBa : Below wr.heap.size wr ((wr.alloc (.cells #[.int .u8 k', .int .i64 n', .string s', .slice a' as'.length cap'] 46)).alloc (.cells #[.int .u8 k'', .int .i64 n'', .string s'', .slice a'' as''.length cap''] 46)) := ((Below.refl _ wr).alloc (Nat.le_refl _) _).alloc (by simp) _
        have hBn : B ≤ wr.heap.size := by have := hB.size; omega
        have hcall := IH.out _ (List.getElem_mem hlt) _ _ _ _ _ _ _ _ _ _ (HD1.out.below (hBa.mono hBn)) (HD2.out.below (hBa.mono hBn)) (by simp; omega)
        have HCALL := Lib.hid hcall
        clear hcall
        have HBA := Lib.hid hBa
        clear hBa
        by_cases hz : Tm.cmp us[j] bs[j] = 0
        · have HZ := Lib.hid hz
          have hz' : (Tm.cmp us[j] bs[j] != 0) = false := by simpa using hz
          clear hz
          go_wp2_with (go_at_call 47; refine HCALL.out.mono ?_; rintro e W3 ⟨rfl, hB3, hd3⟩; have HD3 := Lib.hid (show wr.drawn ≤ W3.drawn from hd3); clear hd3)
          go_roundw
          case rel =>
            refine ⟨j + 1, by omega, by omega, by go_num, hB.trans ((HBA.out.trans (hB3.mono (by simp; omega))).mono hB.size), Nat.le_trans HDR.out HD3.out, ?_⟩
            show _ = _
            rw [HC.out, HDA.out, HDB.out]
            simp only [Tm.cmpL]
            rw [if_neg (by simpa using HZ.out)]
          case measure => simp [intOf]; omega
        · have HZ := Lib.hid hz
          have hz' : (Tm.cmp us[j] bs[j] != 0) = true := by simpa using hz
          clear hz
          go_wp2_with (go_at_call 47; refine HCALL.out.mono ?_; rintro e W3 ⟨rfl, hB3, hd3⟩; have HD3 := Lib.hid (show wr.drawn ≤ W3.drawn from hd3); clear hd3)
          go_ret
          refine ⟨?_, hB.trans ((HBA.out.trans (hB3.mono (by simp; omega))).mono hB.size), Nat.le_trans HDR.out HD3.out⟩
          rw [HC.out, HDA.out, HDB.out]
          simp only [Tm.cmpL]
          rw [if_pos HZ.out]; rfl
      · have hdb : bs.drop j = [] := List.drop_eq_nil_of_le (by omega)
        have HDB := Lib.hid hdb; clear hdb
        go_wp2
        go_ret
        refine ⟨?_, hB.alloc (by have := hB.size; omega) _, HDR.out⟩
        rw [HC.out, HDA.out, HDB.out]
        simp only [Tm.cmpL]; rfl
    · have hda : us.drop j = [] := List.drop_eq_nil_of_le (by omega)
      have HDA := Lib.hid hda; clear hda
      by_cases hltb : us.length < bs.length
      · have hdb : bs.drop j = bs[j]'(by omega) :: bs.drop (j + 1) := List.drop_eq_getElem_cons (by omega)
        have HDB := Lib.hid hdb; clear hdb
        go_wp2
        go_ret
        refine ⟨?_, hB, HDR.out⟩
        rw [HC.out, HDA.out, HDB.out]
        simp only [Tm.cmpL]; rfl
      · have hdb : bs.drop j = [] := List.drop_eq_nil_of_le (by omega)
        have HDB := Lib.hid hdb; clear hdb
        go_wp2
        go_ret
        refine ⟨?_, hB, HDR.out⟩
        rw [HC.out, HDA.out, HDB.out]
        simp only [Tm.cmpL]; rfl
set_option maxRecDepth 100000 in
set_option maxHeartbeats 2000000 in
theorem compare_g (B : Nat) (t : Tm) : CmpAtG B t := by
  induction t using Tm.ind with
  | h k n s us ih =>
    rintro ⟨k', n', s', us'⟩ c0 c1 c2 c3 d0 d1 d2 d3 W h1 h2 hB
    simp only [IsTm] at h1 h2
    obtain ⟨rfl, hk, rfl, hn, rfl, hs, a, cap, rfl, hl, hargs⟩ := h1
    obtain ⟨rfl, hk', rfl, hn', rfl, hs', a', cap', rfl, hl', hargs'⟩ := h2
    have HA := Lib.hid hargs; clear hargs
    have HA' := Lib.hid hargs'; clear hargs'
    have IH := Lib.hid ih; clear ih
    go_enter Tryz.func47, Tryz.ntmps47
    go_wp2_with fail
    go_quiet (first | (go_at_call 81; exact Calls.quiet_of_same (rank_q _ _ (by assumption))) | (go_at_call 45; exact Calls.quiet_of_same (Tryz.cmp_Compare_int _ _ _)))
    generalize hW1 : World.drewN _ _ = W1
    have hz1 : W1.heap.size = W.heap.size + 2 := by rw [← hW1]; show ((W.alloc _).alloc _).heap.size = _; simp
    have hB1 : Below W.heap.size W W1 := by
      rw [← hW1]
      have := (((Below.refl _ W).alloc (Nat.le_refl _) (.cells #[.int .u8 k, .int .i64 n, .string s, .slice a us.length cap] 46)).alloc (by simp) (.cells #[.int .u8 k', .int .i64 n', .string s', .slice a' us'.length cap'] 46))
      exact ⟨this.os, this.tape, this.output, this.size, this.block⟩
    have HDR1 := Lib.hid (show W.drawn ≤ W1.drawn by rw [← hW1]; exact Nat.le_add_right _ _)
    have hx : W1.heap[W.heap.size]? = some (.cells #[.int .u8 k, .int .i64 n, .string s, .slice a us.length cap] 46 (0, 0)) := by
      rw [← hW1]; exact (Below.heap_alloc _ _ _ (by simp)).trans (World.alloc_heap_new W _)
    have hy : W1.heap[W.heap.size + 1]? = some (.cells #[.int .u8 k', .int .i64 n', .string s', .slice a' us'.length cap'] 46 (0, 0)) := by
      rw [← hW1]
      have := World.alloc_heap_new (W.alloc (.cells #[.int .u8 k, .int .i64 n, .string s, .slice a us.length cap] 46)) (.cells #[.int .u8 k', .int .i64 n', .string s', .slice a' us'.length cap'] 46)
      rw [World.size_alloc] at this; exact this
    have x0 := cells_at hx 0 _ rfl
    have x1 := cells_at hx 1 _ rfl
    have x2 := cells_at hx 2 _ rfl
    have x3 := cells_at hx 3 _ rfl
    have y0 := cells_at hy 0 _ rfl
    have y1 := cells_at hy 1 _ rfl
    have y2 := cells_at hy 2 _ rfl
    have y3 := cells_at hy 3 _ rfl
    have HX := Lib.hid hx
    have HY := Lib.hid hy
    clear hW1 hx hy
    have HZ1 := Lib.hid hz1; clear hz1
    have hc : Tm.cmp (.mk k n s us) (.mk k' n' s' us') = (if Lib.compareInt (rankI k) (rankI k') ≠ 0 then Lib.compareInt (rankI k) (rankI k')
      else if k = 1 ∧ n ≠ n' then Lib.compareInt n n'
      else if orI (Lib.compareInt us.length us'.length) (strCmp s s') ≠ 0 then orI (Lib.compareInt us.length us'.length) (strCmp s s')
      else if Tm.cmpL us us' ≠ 0 then Tm.cmpL us us'
      else Lib.compareInt n n') := by simp only [Tm.cmp]
    have HC := Lib.hid hc; clear hc
    by_cases hc1 : Lib.compareInt (rankI k) (rankI k') = 0
    · have HC1 := Lib.hid hc1
      have e1 : (Lib.compareInt (rankI k) (rankI k') != 0) = false := by simpa using hc1
      clear hc1
      by_cases hk1 : k = 1 ∧ n ≠ n'
      · obtain ⟨rfl, hnn⟩ := hk1
        have HNN := Lib.hid hnn
        have e2 : (n != n') = true := by simpa using hnn
        clear hnn
        go_wp2_with (go_at_call 45; refine (Tryz.cmp_Compare_int _ _ _).mono ?_; rintro e W2 ⟨rfl, rfl⟩)
        go_ret
        exact ⟨by rw [HC.out, if_neg (by simpa using HC1.out), if_pos (by simpa using HNN.out)]; rfl, hB1, HDR1.out⟩
      · have HK1 := Lib.hid hk1
        have e3 : (k == 1) = false ∨ ((k == 1) = true ∧ (n != n') = false) := by
          by_cases e : k = 1
          · right; refine ⟨by simpa using e, ?_⟩
            have : n = n' := by
              by_cases h : n = n'
              · exact h
              · exact absurd ⟨e, h⟩ hk1
            simpa using this
          · left; simpa using e
        clear hk1
        rcases e3 with e3 | ⟨e3, e4⟩
        all_goals
          go_wp2_with fail
          go_still_tail 12, (by kernel_rfl)
          still_call (Tryz.cmp_Compare_int _ _ _)
          repeat still_step
          still_call (compareString_q _ _ _)
          refine wpStill_nil ?_
          change wpList _ _ _ _ _ W1.drew
          have hO := or_two W1.heap.size (Lib.compareInt us.length us'.length) (strCmp s s') 2 (W1.alloc (.cells #[.int .i64 (Lib.compareInt us.length us'.length), .int .i64 (strCmp s s')] 3)).drew
            (cells_at (World.alloc_heap_new W1 (.cells #[.int .i64 (Lib.compareInt us.length us'.length), .int .i64 (strCmp s s')] 3)) 0 _ rfl) (cells_at (World.alloc_heap_new W1 (.cells #[.int .i64 (Lib.compareInt us.length us'.length), .int .i64 (strCmp s s')] 3)) 1 _ rfl)
          have HO := Lib.hid hO; clear hO
          go_wp2_with (go_at_call 43; refine HO.out.mono ?_)
          clear HO
          rintro e W3' ⟨rfl, hW3⟩
          have hB3 : Below W.heap.size W W3' := by rw [← hW3]; exact (hB1.alloc (by rw [HZ1.out]; omega) _).drew
          have HDR3 := Lib.hid (show W.drawn ≤ W3'.drawn by rw [← hW3]; have := HDR1.out; show W.drawn ≤ W1.drawn + 1; omega)
          have hz3 : W3'.heap.size = W.heap.size + 3 := by rw [← hW3]; show (W1.alloc _).heap.size = _; rw [World.size_alloc, HZ1.out]
          have hx : W3'.heap[W.heap.size]? = some (.cells #[.int .u8 k, .int .i64 n, .string s, .slice a us.length cap] 46 (0, 0)) := by
            rw [← hW3]; exact (Below.heap_alloc _ _ _ (by rw [HZ1.out]; omega)).trans HX.out
          have hy : W3'.heap[W.heap.size + 1]? = some (.cells #[.int .u8 k', .int .i64 n', .string s', .slice a' us'.length cap'] 46 (0, 0)) := by
            rw [← hW3]; exact (Below.heap_alloc _ _ _ (by rw [HZ1.out]; omega)).trans HY.out
          clear hW3 HX HY x0 x1 x2 x3 y0 y1 y2 y3
          have x3 := cells_at hx 3 _ rfl
          have y3 := cells_at hy 3 _ rfl
          have HX := Lib.hid hx
          have HY := Lib.hid hy
          have HZ3 := Lib.hid hz3
          clear hx hy hz3
          by_cases hor : orI (Lib.compareInt us.length us'.length) (strCmp s s') = 0
          · have HOR := Lib.hid hor
            have e5 : (orI (Lib.compareInt us.length us'.length) (strCmp s s') != 0) = false := by simpa using hor
            clear hor
            have hF := compareFunc_g B us us' IH.out a a' cap cap' W3' (by rw [HZ3.out]; omega) hl hl'
              (fun h => by obtain ⟨b, off, h1, h2, h3⟩ := HA.out h; exact ⟨b, off, h1, h2, h3.below (hB3.mono hB) h2⟩)
              (fun h => by obtain ⟨b, off, h1, h2, h3⟩ := HA'.out h; exact ⟨b, off, h1, h2, h3.below (hB3.mono hB) h2⟩)
            have HF := Lib.hid hF; clear hF
            go_wp2_with (go_at_call 46; refine HF.out.mono ?_)
            clear HF
            rintro e W4 ⟨rfl, hB4, hd4⟩
            have HDR4 := Lib.hid hd4
            clear hd4
            have hx := (hB4.block _ (by rw [HZ3.out]; omega)).trans HX.out
            have hy := (hB4.block _ (by rw [HZ3.out]; omega)).trans HY.out
            have x1 := cells_at hx 1 _ rfl
            have y1 := cells_at hy 1 _ rfl
            have hBf : Below W.heap.size W W4 := hB3.trans (hB4.mono (by rw [HZ3.out]; omega))
            clear hx hy hB4
            by_cases hcf : Tm.cmpL us us' = 0
            · have HCF := Lib.hid hcf
              have e6 : (Tm.cmpL us us' != 0) = false := by simpa using hcf
              clear hcf
              go_wp2_with (go_at_call 45; refine (Tryz.cmp_Compare_int _ _ _).mono ?_; rintro e W5 ⟨rfl, rfl⟩)
              go_ret
              exact ⟨by rw [HC.out, if_neg (by simpa using HC1.out), if_neg HK1.out, if_neg (by simpa using HOR.out), if_neg (by simpa using HCF.out)]; rfl, hBf, Nat.le_trans HDR3.out HDR4.out⟩
            · have HCF := Lib.hid hcf
              have e6 : (Tm.cmpL us us' != 0) = true := by simpa using hcf
              clear hcf
              go_wp2
              go_ret
              exact ⟨by rw [HC.out, if_neg (by simpa using HC1.out), if_neg HK1.out, if_neg (by simpa using HOR.out), if_pos HCF.out]; rfl, hBf, Nat.le_trans HDR3.out HDR4.out⟩
          · have HOR := Lib.hid hor
            have e5 : (orI (Lib.compareInt us.length us'.length) (strCmp s s') != 0) = true := by simpa using hor
            clear hor
            go_wp2
            go_ret
            exact ⟨by rw [HC.out, if_neg (by simpa using HC1.out), if_neg HK1.out, if_pos HOR.out]; rfl, hB3, HDR3.out⟩
    · have HC1 := Lib.hid hc1
      have e1 : (Lib.compareInt (rankI k) (rankI k') != 0) = true := by simpa using hc1
      clear hc1
      go_wp2
      go_ret
      exact ⟨by rw [HC.out, if_pos HC1.out]; rfl, hB1, HDR1.out⟩
end Go.Proofs.YtcoieohbmkjpoaaGreatDoor
namespace Go.Proofs.YtcoieohbmkjpoaaGreatDoor
open Go.RowKit Go.Shelf Go.Maps
attribute [local go_sem] Oper.semAt_some

/-- How atoms compare. -/
def cmpA (x y : Ato) : Int := orI (orI (strCmp x.1 y.1) (Lib.compareInt x.2.length y.2.length)) (Tm.cmpL x.2 y.2)
theorem cmpA_sg (x y : Ato) : Sg (cmpA x y) := ((by rw [strCmp_eq]; exact byC_sg _ _ : Sg (strCmp x.1 y.1)).or (int_sg _ _)).or (cmpL_sg _ _)
theorem cmpA_neg (x y : Ato) (hx : Tm.GoodL x.2) (hy : Tm.GoodL y.2) : cmpA y x = -cmpA x y :=
  orI_neg (orI_neg (by rw [strCmp_eq, strCmp_eq]; exact byC_neg _ _) (fun _ => int_neg _ _)) (fun _ => cmpL_neg _ _ hx hy)
theorem cmpA_zero (x y : Ato) (hx : Tm.GoodL x.2) (hy : Tm.GoodL y.2) : cmpA x y = 0 ↔ x = y := by
  unfold cmpA
  rw [orI_zero, orI_zero, strCmp_eq, byC_zero, str_inj, cmpL_zero _ _ hx hy]
  constructor
  · rintro ⟨⟨h1, _⟩, h2⟩; exact Prod.ext h1 h2
  · rintro rfl; exact ⟨⟨rfl, by rw [int_zero]⟩, rfl⟩
theorem cmpA_tri (x y z : Ato) (hx : Tm.GoodL x.2) (hy : Tm.GoodL y.2) (hz : Tm.GoodL z.2) : Tri (cmpA x y) (cmpA y z) (cmpA x z) :=
  ((by rw [strCmp_eq, strCmp_eq, strCmp_eq]; exact byC_tri _ _ _ : Tri (strCmp x.1 y.1) (strCmp y.1 z.1) (strCmp x.1 z.1)).or (fun _ _ => int_tri _ _ _)).or (fun _ _ => cmpL_tri _ _ _ hx hy hz)
set_option maxRecDepth 100000 in
set_option maxHeartbeats 4000000 in
theorem compareA_any (x y : Ato) (av bv : Option Addr) (cap capb : Nat) (S S' : Nat → Prop) (w : World) (h : AtS S w (.string x.1) (.slice av x.2.length cap) x) (hS : ∀ b, S b → b < w.heap.size) (h' : AtS S' w (.string y.1) (.slice bv y.2.length capb) y) (hS' : ∀ b, S' b → b < w.heap.size) :
    Calls Tryz.prog 12 #[.agg #[.string x.1, .slice av x.2.length cap], .agg #[.string y.1, .slice bv y.2.length capb]] w fun e w' => e = .returned (.int .i64 (cmpA x y)) ∧ Grew w w' := by
  obtain ⟨p, us⟩ := x
  obtain ⟨q, vs⟩ := y
  change Calls Tryz.prog 12 #[.agg #[.string p, .slice av us.length cap], .agg #[.string q, .slice bv vs.length capb]] w _
  obtain ⟨W1, hW1⟩ : ∃ W1, (w.alloc (.cells #[.string p, .slice av us.length cap] 24)).alloc (.cells #[.string q, .slice bv vs.length capb] 24) = W1 := ⟨_, rfl⟩
  have hB : Grew w W1 := by rw [← hW1]; exact (Grew.alloc _ _).trans (Grew.alloc _ _)
  have hx : W1.heap[w.heap.size]? = some (.cells #[.string p, .slice av us.length cap] 24 (0, 0)) := by rw [← hW1]; exact (Below.heap_alloc _ _ _ (by simp)).trans (World.alloc_heap_new _ _)
  have hy : W1.heap[w.heap.size + 1]? = some (.cells #[.string q, .slice bv vs.length capb] 24 (0, 0)) := by
    rw [← hW1]; have := World.alloc_heap_new (w.alloc (.cells #[.string p, .slice av us.length cap] 24)) (.cells #[.string q, .slice bv vs.length capb] 24); rwa [World.size_alloc] at this
  have hl1 := h.2.2
  have hl2 := h'.2.2
  have HA := Lib.hid (h.args hS)
  have HA' := Lib.hid (h'.args hS')
  have HL1 := Lib.hid (show us.length ≤ maxLen by obtain ⟨_, _, _, q, _⟩ := hl1; exact q)
  have HL2 := Lib.hid (show vs.length ≤ maxLen by obtain ⟨_, _, _, q, _⟩ := hl2; exact q)
  have HB := Lib.hid hB
  have HX := Lib.hid hx
  have HY := Lib.hid hy
  have hc : cmpA (p, us) (q, vs) = orI (orI (strCmp p q) (Lib.compareInt us.length vs.length)) (Tm.cmpL us vs) := rfl
  have HCC := Lib.hid hc
  clear h h' hS hS' hl1 hl2 hB hx hy hc
  go_enter Tryz.func12, Tryz.ntmps12
  go_wp2_with fail
  try rw [hW1]
  clear hW1
  have hst := @FL_grow [fV (.pointer (some ⟨w.heap.size, 0, none⟩)), fV (.string p), fV (.pointer (some ⟨w.heap.size + 1, 0, none⟩)), fV (.string q), fV (.int .i64 (strCmp p q)), fV (.pointer (some ⟨w.heap.size, 1, none⟩)), fV (.slice av us.length cap), fV (.int .i64 us.length), fV (.pointer (some ⟨w.heap.size + 1, 1, none⟩)), fV (.slice bv vs.length capb), fV (.int .i64 vs.length), fV (.int .i64 (Lib.compareInt us.length vs.length))] (by
    intro F hF
    simp only [List.mem_cons, List.not_mem_nil, or_false] at hF
    rcases hF with rfl | rfl | rfl | rfl | rfl | rfl | rfl | rfl | rfl | rfl | rfl | rfl <;> first | exact fV_stays _)
  refine wp_region_grow_tailW (by kernel_rfl) 12 (FL [fV (.pointer (some ⟨w.heap.size, 0, none⟩)), fV (.string p), fV (.pointer (some ⟨w.heap.size + 1, 0, none⟩)), fV (.string q), fV (.int .i64 (strCmp p q)), fV (.pointer (some ⟨w.heap.size, 1, none⟩)), fV (.slice av us.length cap), fV (.int .i64 us.length), fV (.pointer (some ⟨w.heap.size + 1, 1, none⟩)), fV (.slice bv vs.length capb), fV (.int .i64 vs.length), fV (.int .i64 (Lib.compareInt us.length vs.length))]) hst (by kernel_rfl) (by kernel_rfl) (steps_toW ?_) ?_
  · simp only [List.take_succ_cons, List.take_zero]
    refine ⟨?_, ?_, ?_, ?_, ?_, ?_, ?_, ?_, ?_, ?_, ?_, ?_, trivial⟩
    · intro a wx hb hd hs ho hp
      refine ⟨rfl, ?_⟩
      have h2 : a.tmps.getD 2 undef = .pointer (some ⟨w.heap.size, 0, none⟩) := (ho 2 (by kernel_rfl)).trans rfl
      unfold Oper.wp
      go_simp
      exact SteppedW.at (v := .pointer (some ⟨w.heap.size, 0, none⟩)) (by first | rfl | simp) hd (Grew.refl _) rfl
    · intro a wx hb hd hs ho hp
      refine ⟨rfl, ?_⟩
      have h6 : a.tmps.getD 6 undef = .pointer (some ⟨w.heap.size, 0, none⟩) := facts_at hp 0 6 (by kernel_rfl)
      have hx := (hb.low.block w.heap.size (Array.getElem?_eq_some_iff.1 HX.out).1).trans HX.out
      have x0 := cells_at hx 0 _ rfl
      unfold Oper.wp
      go_simp
      exact SteppedW.at (v := .string p) (by first | rfl | simp) hd (Grew.refl _) rfl
    · intro a wx hb hd hs ho hp
      refine ⟨rfl, ?_⟩
      have h3 : a.tmps.getD 3 undef = .pointer (some ⟨w.heap.size + 1, 0, none⟩) := (ho 3 (by kernel_rfl)).trans rfl
      unfold Oper.wp
      go_simp
      exact SteppedW.at (v := .pointer (some ⟨w.heap.size + 1, 0, none⟩)) (by first | rfl | simp) hd (Grew.refl _) rfl
    · intro a wx hb hd hs ho hp
      refine ⟨rfl, ?_⟩
      have h8 : a.tmps.getD 8 undef = .pointer (some ⟨w.heap.size + 1, 0, none⟩) := facts_at hp 2 8 (by kernel_rfl)
      have hx := (hb.low.block (w.heap.size + 1) (Array.getElem?_eq_some_iff.1 HY.out).1).trans HY.out
      have x0 := cells_at hx 0 _ rfl
      unfold Oper.wp
      go_simp
      exact SteppedW.at (v := .string q) (by first | rfl | simp) hd (Grew.refl _) rfl
    · intro a wx hb hd hs ho hp
      refine ⟨rfl, ?_⟩
      have h7 : a.tmps.getD 7 undef = .string p := facts_at hp 1 7 (by kernel_rfl)
      have h9 : a.tmps.getD 9 undef = .string q := facts_at hp 3 9 (by kernel_rfl)
      unfold Oper.wp
      go_simp
      refine (compareString_q p q wx).mono ?_
      rintro e w9 ⟨rfl, rfl⟩
      exact SteppedW.at (v := .int .i64 (strCmp p q)) (by first | rfl | simp) hd (Grew.refl _) rfl
    · intro a wx hb hd hs ho hp
      refine ⟨rfl, ?_⟩
      have h2 : a.tmps.getD 2 undef = .pointer (some ⟨w.heap.size, 0, none⟩) := (ho 2 (by kernel_rfl)).trans rfl
      unfold Oper.wp
      go_simp
      exact SteppedW.at (v := .pointer (some ⟨w.heap.size, 1, none⟩)) (by first | rfl | simp) hd (Grew.refl _) rfl
    · intro a wx hb hd hs ho hp
      refine ⟨rfl, ?_⟩
      have h11 : a.tmps.getD 11 undef = .pointer (some ⟨w.heap.size, 1, none⟩) := facts_at hp 5 11 (by kernel_rfl)
      have hx := (hb.low.block w.heap.size (Array.getElem?_eq_some_iff.1 HX.out).1).trans HX.out
      have x1 := cells_at hx 1 _ rfl
      unfold Oper.wp
      go_simp
      exact SteppedW.at (v := .slice av us.length cap) (by first | rfl | simp) hd (Grew.refl _) rfl
    · intro a wx hb hd hs ho hp
      refine ⟨rfl, ?_⟩
      have h12 : a.tmps.getD 12 undef = .slice av us.length cap := facts_at hp 6 12 (by kernel_rfl)
      unfold Oper.wp
      go_simp
      exact SteppedW.at (v := .int .i64 us.length) (by first | rfl | simp) hd (Grew.refl _) rfl
    · intro a wx hb hd hs ho hp
      refine ⟨rfl, ?_⟩
      have h3 : a.tmps.getD 3 undef = .pointer (some ⟨w.heap.size + 1, 0, none⟩) := (ho 3 (by kernel_rfl)).trans rfl
      unfold Oper.wp
      go_simp
      exact SteppedW.at (v := .pointer (some ⟨w.heap.size + 1, 1, none⟩)) (by first | rfl | simp) hd (Grew.refl _) rfl
    · intro a wx hb hd hs ho hp
      refine ⟨rfl, ?_⟩
      have h14 : a.tmps.getD 14 undef = .pointer (some ⟨w.heap.size + 1, 1, none⟩) := facts_at hp 8 14 (by kernel_rfl)
      have hx := (hb.low.block (w.heap.size + 1) (Array.getElem?_eq_some_iff.1 HY.out).1).trans HY.out
      have x1 := cells_at hx 1 _ rfl
      unfold Oper.wp
      go_simp
      exact SteppedW.at (v := .slice bv vs.length capb) (by first | rfl | simp) hd (Grew.refl _) rfl
    · intro a wx hb hd hs ho hp
      refine ⟨rfl, ?_⟩
      have h15 : a.tmps.getD 15 undef = .slice bv vs.length capb := facts_at hp 9 15 (by kernel_rfl)
      unfold Oper.wp
      go_simp
      exact SteppedW.at (v := .int .i64 vs.length) (by first | rfl | simp) hd (Grew.refl _) rfl
    · intro a wx hb hd hs ho hp
      refine ⟨rfl, ?_⟩
      have h13 : a.tmps.getD 13 undef = .int .i64 us.length := facts_at hp 7 13 (by kernel_rfl)
      have h16 : a.tmps.getD 16 undef = .int .i64 vs.length := facts_at hp 10 16 (by kernel_rfl)
      unfold Oper.wp
      go_simp
      refine (Tryz.cmp_Compare_int us.length vs.length wx).mono ?_
      rintro e w9 ⟨rfl, rfl⟩
      exact SteppedW.at (v := .int .i64 (Lib.compareInt us.length vs.length)) (by first | rfl | simp) hd (Grew.refl _) rfl
  intro ac W2 hBelow hDefers hTmps hOuter hf
  obtain ⟨u6, f6⟩ : ∃ u, ac.tmps.getD 6 undef = u := ⟨_, rfl⟩
  obtain ⟨u7, f7⟩ : ∃ u, ac.tmps.getD 7 undef = u := ⟨_, rfl⟩
  obtain ⟨u8, f8⟩ : ∃ u, ac.tmps.getD 8 undef = u := ⟨_, rfl⟩
  obtain ⟨u9, f9⟩ : ∃ u, ac.tmps.getD 9 undef = u := ⟨_, rfl⟩
  have f10 : ac.tmps.getD 10 undef = .int .i64 (strCmp p q) := facts_toW hf 4 10 (by decide) (by kernel_rfl)
  obtain ⟨u11, f11⟩ : ∃ u, ac.tmps.getD 11 undef = u := ⟨_, rfl⟩
  obtain ⟨u12, f12⟩ : ∃ u, ac.tmps.getD 12 undef = u := ⟨_, rfl⟩
  obtain ⟨u13, f13⟩ : ∃ u, ac.tmps.getD 13 undef = u := ⟨_, rfl⟩
  obtain ⟨u14, f14⟩ : ∃ u, ac.tmps.getD 14 undef = u := ⟨_, rfl⟩
  obtain ⟨u15, f15⟩ : ∃ u, ac.tmps.getD 15 undef = u := ⟨_, rfl⟩
  obtain ⟨u16, f16⟩ : ∃ u, ac.tmps.getD 16 undef = u := ⟨_, rfl⟩
  have f17 : ac.tmps.getD 17 undef = .int .i64 (Lib.compareInt us.length vs.length) := facts_toW hf 11 17 (by decide) (by kernel_rfl)
  obtain ⟨TT, DD⟩ := ac
  obtain rfl : DD = [] := hDefers
  have hE := slots_mergeR [false, false, false, false, false, false, true, true, true, true, true, true, true, true, true, true, true, true, false, false, false, false, false, false, false, false, false, false] 28 hTmps rfl (by kernel_rfl) hOuter
  simp only [mergeFrom, Nat.zero_add, Nat.reduceAdd, f6, f7, f8, f9, f10, f11, f12, f13, f14, f15, f16, f17] at hE
  clear hst hf hOuter hTmps f6 f7 f8 f9 f10 f11 f12 f13 f14 f15 f16 f17
  subst hE
  simp only [List.drop_succ_cons, List.drop_zero]
  have hg2 := HB.out.trans hBelow
  have hx2 := (hBelow.low.block w.heap.size (Array.getElem?_eq_some_iff.1 HX.out).1).trans HX.out
  have hy2 := (hBelow.low.block (w.heap.size + 1) (Array.getElem?_eq_some_iff.1 HY.out).1).trans HY.out
  have HG2 := Lib.hid hg2
  have HX2 := Lib.hid hx2
  have HY2 := Lib.hid hy2
  obtain ⟨W3, hW3⟩ : ∃ W3, W2.alloc (.cells #[.int .i64 (strCmp p q), .int .i64 (Lib.compareInt us.length vs.length)] 3) = W3 := ⟨_, rfl⟩
  have hq3 : W3.heap[W2.heap.size]? = some (.cells #[.int .i64 (strCmp p q), .int .i64 (Lib.compareInt us.length vs.length)] 3 (0, 0)) := by rw [← hW3]; exact World.alloc_heap_new _ _
  have hg3 : Grew W2 W3 := by rw [← hW3]; exact Grew.alloc _ _
  have HO := Lib.hid (or_two W2.heap.size (strCmp p q) (Lib.compareInt us.length vs.length) 2 W3 (cells_at hq3 0 _ rfl) (cells_at hq3 1 _ rfl))
  have hx3 := (hg3.low.block w.heap.size (Array.getElem?_eq_some_iff.1 hx2).1).trans hx2
  have hy3 := (hg3.low.block (w.heap.size + 1) (Array.getElem?_eq_some_iff.1 hy2).1).trans hy2
  have x1 := cells_at hx3 1 _ rfl
  have y1 := cells_at hy3 1 _ rfl
  have HG3 := Lib.hid (hg2.trans hg3)
  clear hg2 hx2 hy2 hq3 hg3 hx3 hy3 hBelow HX HY HX2 HY2
  by_cases hz : orI (strCmp p q) (Lib.compareInt us.length vs.length) = 0
  · have e5 : (orI (strCmp p q) (Lib.compareInt us.length vs.length) != 0) = false := by simpa using hz
    have HZ := Lib.hid hz
    have HF := Lib.hid (compareFunc_g w.heap.size us vs (fun t _ => compare_g _ t) av bv cap capb W3 HG3.out.low.size HL1.out HL2.out
      (fun hn => by obtain ⟨b, off, ha, hb, hi⟩ := HA.out hn; exact ⟨b, off, ha, hb, hi.below HG3.out.low hb⟩)
      (fun hn => by obtain ⟨b, off, ha, hb, hi⟩ := HA'.out hn; exact ⟨b, off, ha, hb, hi.below HG3.out.low hb⟩))
    clear hz
    go_wp2_with (first | (go_at_call 43; refine HO.out.mono ?_; rintro e w9 ⟨rfl, rfl⟩) | (go_at_call 46; refine HF.out.mono ?_; rintro e w8 ⟨rfl, hb8, hd8⟩; have HB8 := Lib.hid (show Grew W3 w8 from ⟨hb8, hd8⟩); clear hb8 hd8))
    go_ret
    exact ⟨by rw [HCC.out, orI_r HZ.out]; rfl, HG3.out.trans HB8.out⟩
  · have e5 : (orI (strCmp p q) (Lib.compareInt us.length vs.length) != 0) = true := by simpa using hz
    have HZ := Lib.hid hz
    clear hz
    go_wp2_with (go_at_call 43; refine HO.out.mono ?_; rintro e w9 ⟨rfl, rfl⟩)
    go_ret
    exact ⟨by rw [HCC.out]; show Ending.returned (.int .i64 (orI (strCmp p q) (Lib.compareInt us.length vs.length))) = _; rw [orI_l HZ.out], HG3.out⟩
/-- The numbers of a list, compared by their atoms. -/
def cfI (L : List Ato) (i k : Fin L.length) : Int := cmpA L[i] L[k]
set_option maxRecDepth 100000 in
set_option maxHeartbeats 4000000 in
theorem sorted1_any (bx : Nat) (lv : Value) (L : List Ato) (i k : Nat) (w : World) (hb : w.heap[bx]? = some (.cells #[lv] 52 (0, 0))) (hR : LstR w lv L) (hi : i < L.length) (hk : k < L.length) :
    Calls Tryz.prog 94 #[.int .i64 i, .int .i64 k, .pointer (some ⟨bx, 0, none⟩)] w fun e w' => e = .returned (.int .i64 (cmpA L[i] L[k])) ∧ Grew w w' := by
  obtain ⟨g, c, av, cap, rfl, y0, y1, hA⟩ := hR.at i hi
  obtain ⟨g', c', bv, capb, e, z0, z1, hA'⟩ := hR.at k hk
  cases e
  obtain ⟨x, hx⟩ : ∃ x, L[i] = x := ⟨_, rfl⟩
  obtain ⟨y, hy⟩ : ∃ x, L[k] = x := ⟨_, rfl⟩
  rw [hx] at y0 y1 hA ⊢
  rw [hy] at z0 z1 hA' ⊢
  obtain ⟨p, us⟩ := x
  obtain ⟨q, vs⟩ := y
  have HA := Lib.hid hA
  have HA' := Lib.hid hA'
  have HX := Lib.hid hb
  have Y0 := Lib.hid y0
  have Y1 := Lib.hid y1
  have Z0 := Lib.hid z0
  have Z1 := Lib.hid z1
  have i1 : (i : Int) < (L.length : Int) := by omega
  have i2 : (0 : Int) ≤ (i : Int) := by omega
  have i3 : (k : Int) < (L.length : Int) := by omega
  have i4 : (0 : Int) ≤ (k : Int) := by omega
  have hli : (L.length : Int) ≤ 9223372036854775807 := by
    obtain ⟨xs, ho, _⟩ := hR
    rcases ho.2 with ⟨e, _⟩ | ⟨g, cap, cur, e, _, _, h1, h2, _⟩
    · cases e
    · unfold maxLen at h2; omega
  clear hR hb hA hA' y0 y1 z0 z1 hx hy
  go_enter Tryz.func94, Tryz.ntmps94
  go_wp2_with fail
  have hst := @FL_grow [fV (.slice (some ⟨g, 0, none⟩) L.length c), fV (.int .i64 i), fV (.pointer (some ⟨g, i * 2, none⟩)), fV (.agg #[.string p, .slice av us.length cap]), fV (.slice (some ⟨g, 0, none⟩) L.length c), fV (.int .i64 k), fV (.pointer (some ⟨g, k * 2, none⟩)), fV (.agg #[.string q, .slice bv vs.length capb])] (by
    intro F hF
    simp only [List.mem_cons, List.not_mem_nil, or_false] at hF
    rcases hF with rfl | rfl | rfl | rfl | rfl | rfl | rfl | rfl <;> first | exact fV_stays _)
  refine wp_region_grow_tailW (by kernel_rfl) 8 (FL [fV (.slice (some ⟨g, 0, none⟩) L.length c), fV (.int .i64 i), fV (.pointer (some ⟨g, i * 2, none⟩)), fV (.agg #[.string p, .slice av us.length cap]), fV (.slice (some ⟨g, 0, none⟩) L.length c), fV (.int .i64 k), fV (.pointer (some ⟨g, k * 2, none⟩)), fV (.agg #[.string q, .slice bv vs.length capb])]) hst (by kernel_rfl) (by kernel_rfl) (steps_toW ?_) ?_
  · simp only [List.take_succ_cons, List.take_zero]
    refine ⟨?_, ?_, ?_, ?_, ?_, ?_, ?_, ?_, trivial⟩
    · intro a wx hb hd hs ho hp
      refine ⟨rfl, ?_⟩
      have h2 : a.tmps.getD 2 undef = .pointer (some ⟨bx, 0, none⟩) := (ho 2 (by kernel_rfl)).trans rfl
      have hx := (hb.low.block bx (Array.getElem?_eq_some_iff.1 HX.out).1).trans HX.out
      have x0 := cells_at hx 0 _ rfl
      unfold Oper.wp
      go_simp
      exact SteppedW.at (v := .slice (some ⟨g, 0, none⟩) L.length c) (by first | rfl | simp) hd (Grew.refl _) rfl
    · intro a wx hb hd hs ho hp
      refine ⟨rfl, ?_⟩
      have h0 : a.tmps.getD 0 undef = .int .i64 i := (ho 0 (by kernel_rfl)).trans rfl
      unfold Oper.wp
      go_simp
      exact SteppedW.at (v := .int .i64 i) (by first | rfl | simp) hd (Grew.refl _) rfl
    · intro a wx hb hd hs ho hp
      refine ⟨rfl, ?_⟩
      have h6 : a.tmps.getD 6 undef = .slice (some ⟨g, 0, none⟩) L.length c := facts_at hp 0 6 (by kernel_rfl)
      have h7 : a.tmps.getD 7 undef = .int .i64 i := facts_at hp 1 7 (by kernel_rfl)
      unfold Oper.wp
      go_simp
      exact SteppedW.at (v := .pointer (some ⟨g, i * 2, none⟩)) (by first | rfl | simp) hd (Grew.refl _) rfl
    · intro a wx hb hd hs ho hp
      refine ⟨rfl, ?_⟩
      have h8 : a.tmps.getD 8 undef = .pointer (some ⟨g, i * 2, none⟩) := facts_at hp 2 8 (by kernel_rfl)
      have s8 := qslot_of (hs.trans (rfl : _ = 15)) (by decide) h8
      have x0 := (hb.low.cell (p := ⟨g, i * 2, none⟩) (block_lt_of_cell Y0.out)).trans Y0.out
      have x1 := (hb.low.cell (p := ⟨g, i * 2 + 1, none⟩) (block_lt_of_cell Y1.out)).trans Y1.out
      unfold Oper.wp
      go_simp
      exact SteppedW.at (v := .agg #[.string p, .slice av us.length cap]) (by first | rfl | simp) hd (Grew.refl _) rfl
    · intro a wx hb hd hs ho hp
      refine ⟨rfl, ?_⟩
      have h2 : a.tmps.getD 2 undef = .pointer (some ⟨bx, 0, none⟩) := (ho 2 (by kernel_rfl)).trans rfl
      have hx := (hb.low.block bx (Array.getElem?_eq_some_iff.1 HX.out).1).trans HX.out
      have x0 := cells_at hx 0 _ rfl
      unfold Oper.wp
      go_simp
      exact SteppedW.at (v := .slice (some ⟨g, 0, none⟩) L.length c) (by first | rfl | simp) hd (Grew.refl _) rfl
    · intro a wx hb hd hs ho hp
      refine ⟨rfl, ?_⟩
      have h1 : a.tmps.getD 1 undef = .int .i64 k := (ho 1 (by kernel_rfl)).trans rfl
      unfold Oper.wp
      go_simp
      exact SteppedW.at (v := .int .i64 k) (by first | rfl | simp) hd (Grew.refl _) rfl
    · intro a wx hb hd hs ho hp
      refine ⟨rfl, ?_⟩
      have h10 : a.tmps.getD 10 undef = .slice (some ⟨g, 0, none⟩) L.length c := facts_at hp 4 10 (by kernel_rfl)
      have h11 : a.tmps.getD 11 undef = .int .i64 k := facts_at hp 5 11 (by kernel_rfl)
      unfold Oper.wp
      go_simp
      exact SteppedW.at (v := .pointer (some ⟨g, k * 2, none⟩)) (by first | rfl | simp) hd (Grew.refl _) rfl
    · intro a wx hb hd hs ho hp
      refine ⟨rfl, ?_⟩
      have h12 : a.tmps.getD 12 undef = .pointer (some ⟨g, k * 2, none⟩) := facts_at hp 6 12 (by kernel_rfl)
      have s12 := qslot_of (hs.trans (rfl : _ = 15)) (by decide) h12
      have x0 := (hb.low.cell (p := ⟨g, k * 2, none⟩) (block_lt_of_cell Z0.out)).trans Z0.out
      have x1 := (hb.low.cell (p := ⟨g, k * 2 + 1, none⟩) (block_lt_of_cell Z1.out)).trans Z1.out
      unfold Oper.wp
      go_simp
      exact SteppedW.at (v := .agg #[.string q, .slice bv vs.length capb]) (by first | rfl | simp) hd (Grew.refl _) rfl
  intro ac W2 hBelow hDefers hTmps hOuter hf
  obtain ⟨u6, f6⟩ : ∃ u, ac.tmps.getD 6 undef = u := ⟨_, rfl⟩
  obtain ⟨u7, f7⟩ : ∃ u, ac.tmps.getD 7 undef = u := ⟨_, rfl⟩
  obtain ⟨u8, f8⟩ : ∃ u, ac.tmps.getD 8 undef = u := ⟨_, rfl⟩
  have f9 : ac.tmps.getD 9 undef = .agg #[.string p, .slice av us.length cap] := facts_toW hf 3 9 (by decide) (by kernel_rfl)
  obtain ⟨u10, f10⟩ : ∃ u, ac.tmps.getD 10 undef = u := ⟨_, rfl⟩
  obtain ⟨u11, f11⟩ : ∃ u, ac.tmps.getD 11 undef = u := ⟨_, rfl⟩
  obtain ⟨u12, f12⟩ : ∃ u, ac.tmps.getD 12 undef = u := ⟨_, rfl⟩
  have f13 : ac.tmps.getD 13 undef = .agg #[.string q, .slice bv vs.length capb] := facts_toW hf 7 13 (by decide) (by kernel_rfl)
  obtain ⟨TT, DD⟩ := ac
  obtain rfl : DD = [] := hDefers
  have hE := slots_mergeR [false, false, false, false, false, false, true, true, true, true, true, true, true, true, false] 15 hTmps rfl (by kernel_rfl) hOuter
  simp only [mergeFrom, Nat.zero_add, Nat.reduceAdd, f6, f7, f8, f9, f10, f11, f12, f13] at hE
  clear hst hf hOuter hTmps f6 f7 f8 f9 f10 f11 f12 f13
  subst hE
  simp only [List.drop_succ_cons, List.drop_zero]
  have HC := Lib.hid (compareA_any (p, us) (q, vs) av bv cap capb _ _ W2 (HA.out.below hBelow.low) (fun b h => h) (HA'.out.below hBelow.low) (fun b h => h))
  have HG := Lib.hid hBelow
  clear hBelow
  go_wp2_with (go_at_call 12; refine HC.out.mono ?_; rintro e w9 ⟨rfl, hg⟩; have HG9 := Lib.hid hg; clear hg)
  go_ret
  exact ⟨rfl, HG.out.trans HG9.out⟩
end Go.Proofs.YtcoieohbmkjpoaaGreatDoor
