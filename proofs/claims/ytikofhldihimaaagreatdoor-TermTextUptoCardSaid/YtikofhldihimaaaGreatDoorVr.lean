/- Package term: Vars. -/
import Derived.Test.YtikofhldihimaaaGreatDoorVl
import Derived.Test.YtikofhldihimaaaGreatDoorIter
import Derived.Maps.OwnIn
import Derived.Deep.Onto
import Derived.Maps.OwnOps
import Derived.Maps.OwnSet
namespace Go.Proofs.YtikofhldihimaaaGreatDoor
open Go.RowKit Go.Shelf Go.Maps Go.Sort
attribute [local go_sem] Oper.semAt_some

def varNames (l : List (Tm × Nat)) : List (List UInt8) := (l.filter fun x => x.1.isVar).map fun x => x.1.name.data.toList
/-- The variables of a term: strictly increasing, each once. -/
def SVars (t : Tm) (ss : List (List UInt8)) : Prop := ss.Pairwise (· < ·) ∧ ∀ x, x ∈ ss ↔ x ∈ varNames (t.nodes 1)
def VarsPost (t : Tm) (w : World) (e : Ending) (w' : World) : Prop :=
  ∃ (v : Value) (ss : List (List UInt8)), e = .returned v ∧ SVars t ss ∧ w'.ownsRow w.heap.size 9 1 v ss.length (ss.map encStr) ∧ Below w.heap.size w w'

/-- The map holds just the names. -/
def KeyInv (D : DataW Unit) (names : List (List UInt8)) : Prop := ∃ es, D = .map es ∧ (∀ p ∈ es, ∃ s, p.1 = .string s) ∧ es.Pairwise (fun p q => p.1 ≠ q.1) ∧ (∀ s, (∃ p ∈ es, p.1 = .string s) ↔ s ∈ names) ∧ es.length ≤ names.length
theorem KeyInv.nil : KeyInv (.map []) [] := ⟨[], rfl, by simp, List.Pairwise.nil, by simp, by simp⟩
theorem KeyInv.size {D : DataW Unit} {names : List (List UInt8)} (h : KeyInv D names) : Maps.size D ≤ names.length := by
  obtain ⟨es, rfl, _, _, _, hl⟩ := h; exact hl
theorem KeyInv.put {D : DataW Unit} {names : List (List UInt8)} (h : KeyInv D names) (s : List UInt8) (d : DataW Unit) : KeyInv (D.put (.string s) d) (names ++ [s]) := by
  obtain ⟨es, rfl, hk, hp, hm, hl⟩ := h
  have hperm := WideShapes.insert_perm (Lit.string s, d) (es.filter fun p => !p.1.sameKey (.string s))
  have hne : ∀ q ∈ es.filter (fun p => !p.1.sameKey (.string s)), Lit.string s ≠ q.1 := by
    intro q hq e
    have h2 := (List.mem_filter.1 hq).2
    rw [← e] at h2
    simp [Lit.sameKey] at h2
  refine ⟨_, rfl, ?_, ?_, ?_, by rw [hperm.length_eq]; have := List.length_filter_le (fun p : Lit × DataW Unit => !p.1.sameKey (.string s)) es; simp only [List.length_cons, List.length_append, List.length_nil]; omega⟩
  · intro p hp'
    rcases List.mem_cons.1 (hperm.mem_iff.1 hp') with rfl | h'
    · exact ⟨s, rfl⟩
    · exact hk p (List.mem_filter.1 h').1
  · exact (hperm.pairwise_iff (fun {a b} (h : a.1 ≠ b.1) => h.symm)).2 (List.pairwise_cons.2 ⟨hne, hp.filter _⟩)
  · intro x
    constructor
    · rintro ⟨p, hp', hx⟩
      rcases List.mem_cons.1 (hperm.mem_iff.1 hp') with rfl | h'
      · simp only [Lit.string.injEq] at hx; simp [hx]
      · exact List.mem_append_left _ ((hm x).1 ⟨p, (List.mem_filter.1 h').1, hx⟩)
    · intro hx
      by_cases e : x = s
      · exact ⟨(Lit.string s, d), hperm.mem_iff.2 (List.mem_cons_self ..), by rw [e]⟩
      · have : x ∈ names := by rcases List.mem_append.1 hx with h | h; exact h; exact absurd (List.mem_singleton.1 h) e
        obtain ⟨p, hp', hx'⟩ := (hm x).2 this
        refine ⟨p, hperm.mem_iff.2 (List.mem_cons_of_mem _ (List.mem_filter.2 ⟨hp', ?_⟩)), hx'⟩
        rw [hx']; simp [Lit.sameKey, e]
theorem KeyInv.sorted {D : DataW Unit} {names ss : List (List UInt8)} (h : KeyInv D names) (hs : ss.Perm (strKeys D)) :
    (ss.mergeSort (fun x y => decide (x ≤ y))).Pairwise (· < ·) ∧ ∀ x, x ∈ ss.mergeSort (fun x y => decide (x ≤ y)) ↔ x ∈ names := by
  obtain ⟨es, rfl, hk, hp, hm, _⟩ := h
  have hmem : ∀ x, x ∈ strKeys (.map es : DataW Unit) ↔ x ∈ names := by
    intro x
    rw [← hm x]
    show x ∈ es.map (fun p => strOf p.1) ↔ _
    rw [List.mem_map]
    constructor
    · rintro ⟨p, h1, h2⟩
      obtain ⟨s, e⟩ := hk p h1
      rw [e] at h2
      exact ⟨p, h1, by rw [e, ← h2]; rfl⟩
    · rintro ⟨p, h1, h2⟩
      exact ⟨p, h1, by rw [h2]; rfl⟩
  have hnd : (strKeys (.map es : DataW Unit)).Nodup := by
    show (es.map fun p => strOf p.1).Nodup
    refine List.pairwise_map.2 (hp.imp_of_mem fun {p q} hp' hq' hne e => hne ?_)
    obtain ⟨a, ha⟩ := hk p hp'
    obtain ⟨b, hb⟩ := hk q hq'
    rw [ha, hb] at e ⊢
    exact congrArg _ e
  have tr : ∀ a b c : List UInt8, leB a b = true → leB b c = true → leB a c = true := fun a b c h1 h2 => by simp only [leB, decide_eq_true_eq] at *; exact List.le_trans h1 h2
  have to : ∀ a b : List UInt8, (leB a b || leB b a) = true := fun a b => by simp only [leB, Bool.or_eq_true, decide_eq_true_eq]; exact List.le_total a b
  have hps := List.mergeSort_perm ss leB
  have hnd2 : (ss.mergeSort leB).Nodup := (hps.trans hs).nodup_iff.2 hnd
  refine ⟨?_, fun x => by rw [(hps.trans hs).mem_iff]; exact hmem x⟩
  have h1 := List.pairwise_mergeSort tr to ss
  refine (List.pairwise_and_iff.2 ⟨h1, hnd2⟩).imp ?_
  intro a b ⟨hle, hne⟩
  simp only [leB, decide_eq_true_eq] at hle
  rcases List.le_iff_lt_or_eq.1 hle with h | h
  · exact h
  · exact absurd h hne

def namesOf {n₀ : Nat} {wt : World} (pre : List (NdIn n₀ wt)) : List (List UInt8) := varNames (pre.map NdIn.key)
def VrInv (w : World) (W : World) (n : Nat) (names : List (List UInt8)) : Prop := ∃ D, W.ownsMap Tryz.prog 9 (plainElem Tryz.prog 4) (w.heap.size + 1) n D ∧ KeyInv D names

set_option maxRecDepth 100000 in
set_option maxHeartbeats 2000000 in
theorem vars_in (t : Tm) (c0 c1 c2 c3 : Value) (w : World) (ht : IsTm w.heap.size w c0 c1 c2 c3 t) (hdep : t.depth < 4611686018427387900) (hcnt : (t.nodes 1).length ≤ 1000000000) :
    CallsIn Fence.wide 6 Tryz.prog 17 #[.agg #[c0, c1, c2, c3]] w (VarsPost t w) := by
  have hd : Fence.wide.depth = none := rfl
  have hro : Fence.wide.round = none := rfl
  have hmm := @run_makeMap Tryz.prog
  have hown := World.ownsMap_made (H := Unit) (w.alloc (.cells #[c0, c1, c2, c3] 24)) Tryz.prog 9 (plainElem Tryz.prog 4)
  rw [World.size_alloc] at hown
  have HOWN := Lib.hid hown; clear hown
  refine callsIn_of_wp_marks Tryz.func17 rfl trivial ?_ hro
  simp only [Tryz.ntmps17, List.size_toArray, List.length_cons, List.length_nil, Nat.reduceAdd, Nat.reduceSub, Array.replicate_succ, Array.replicate_zero, List.push_toArray, List.append_toArray, List.nil_append, List.cons_append]
  gi_wp2_with (refine ⟨trivial, ?_⟩; gi_at_call 23; refine (subterms_in Fence.wide 5 trivial hro _ _ _ _ _).mono ?_; rintro e w' ⟨rfl, rfl⟩)
  obtain ⟨W0, hW0⟩ : ∃ W0, (((w.alloc (.cells #[c0, c1, c2, c3] 24)).alloc (.map #[] 0)).alloc (.cells #[.map (some (w.heap.size + 1))] 54)).alloc (.cells #[c0, c1, c2, c3] 24) = W0 := ⟨_, rfl⟩
  have hsz : W0.heap.size = w.heap.size + 4 := by rw [← hW0]; simp
  have hb0 : Below w.heap.size w W0 := by rw [← hW0]; exact ((((Below.refl _ w).alloc (Nat.le_refl _) _).alloc (by simp) _).alloc (by simp; omega) _).alloc (by simp; omega) _
  have hbd : Boxed W0 (w.heap.size + 1 + 1) 54 (.map (some (w.heap.size + 1))) := by
    rw [← hW0]; have := Boxed.new ((w.alloc (.cells #[c0, c1, c2, c3] 24)).alloc (.map #[] 0)) 54 (.map (some (w.heap.size + 1))); rw [World.size_alloc, World.size_alloc] at this; exact this.alloc _
  have hbt : W0.heap[w.heap.size + 1 + 1 + 1]? = some (.cells #[c0, c1, c2, c3] 24 (0, 0)) := by
    rw [← hW0]; have := World.alloc_heap_new (((w.alloc (.cells #[c0, c1, c2, c3] 24)).alloc (.map #[] 0)).alloc (.cells #[.map (some (w.heap.size + 1))] 54)) (.cells #[c0, c1, c2, c3] 24)
    rw [World.size_alloc, World.size_alloc, World.size_alloc] at this; exact this
  have hvi : VrInv w W0 0 [] := by
    rw [← hW0]
    exact ⟨_, (HOWN.out.kept (World.grownBy_alloc _ (.cells #[.map (some (w.heap.size + 1))] 54) none) (by simp)).kept (World.grownBy_alloc _ (.cells #[c0, c1, c2, c3] 24) none) (by simp), KeyInv.nil⟩
  rw [hW0]
  clear hW0 HOWN
  refine wpIn_rangeFunc_ownH hro (by omega) (gf := 41) (lb := #[.pointer (some ⟨w.heap.size + 1 + 1 + 1, 0, none⟩)]) rfl trivial (enters_of Tryz.func41 (by kernel_rfl) rfl)
    (subterms_stops Fence.wide hd 5 trivial trivial hro (w.heap.size + 1 + 1 + 1) w.heap.size w W0 t c0 c1 c2 c3 (by omega) hb0 ht hdep hbt) Kept.trans
    (fun W l o o' hl h hc _ => Kept.putObj o' (by omega) (by have := (Array.getElem?_eq_some_iff.1 h).1; omega) h hc) (Below.refl _ _) (fun _ => rfl)
    (fun pre W => Boxed W (w.heap.size + 1 + 1) 54 (.map (some (w.heap.size + 1))) ∧ VrInv w W pre.length (namesOf pre) ∧ Below w.heap.size w W ∧ W0.heap.size ≤ W.heap.size)
    (fun _ _ _ => False)
    (OwnFrom.and (Own.from (boxed_own _ _ fun _ => .map (some (w.heap.size + 1))) _) (OwnFrom.and (fun pre X Y row hs hg hr => by obtain ⟨D, ho, hk⟩ := hs; exact ⟨D, ho.kept hg (fun e => by have := (hr _ e.symm).1; omega), hk⟩)
      (OwnFrom.and (ownFrom_below (Nat.le_refl _) (by omega)) (fun _ _ _ _ hs hg _ => Nat.le_trans hs hg.size))))
    (fun _ _ _ _ _ hs _ _ => hs) ⟨hbd, hvi, hb0, Nat.le_refl _⟩
    (fun x a' W => ∃ Bx, W0.heap.size ≤ Bx ∧ W.heap[Bx]? = some (.cells #[x.1.c0, x.1.c1, x.1.c2, x.1.c3, .int .i64 x.1.l] 50 (0, 0)) ∧
      a' = { tmps := #[Value.agg #[c0, c1, c2, c3], Value.pointer (some { block := w.heap.size, off := 0 }), .slice none 0 0, Value.pointer (some { block := w.heap.size + 1 + 1, off := 0 }),
          Value.pointer (some { block := Bx, off := 0 }), .map (some (w.heap.size + 1)), Value.agg #[c0, c1, c2, c3],
          Value.func (Fn.func 41) #[] #[Value.pointer (some { block := w.heap.size + 1 + 1 + 1, off := 0 })], x.val, undef, undef, undef, undef, undef, undef, undef, undef, undef, undef, undef], defers := [] })
    (fun x a' s X Y row hs hg hr => by
      obtain ⟨Bx, h1, h2, h3⟩ := hs
      exact ⟨Bx, h1, cells_own Bx 50 (fun _ : Unit => #[x.1.c0, x.1.c1, x.1.c2, x.1.c3, .int .i64 x.1.l]) () X Y row h2 hg (fun r e => (hr r e).2), h3⟩) ?assign ?body ?done ?stop
  case assign =>
    rintro l pre ⟨⟨d0, d1, d2, d3, ⟨k', n', s', as'⟩, lv⟩, hx, hlv⟩ W K ⟨hi1, ⟨D, hi4, hi5⟩, hi2, hiz⟩ hK
    have hx0 := hx
    simp only [IsTm] at hx
    obtain ⟨rfl, _, rfl, _, rfl, _, a', cap', rfl, _, _⟩ := hx
    have hK' := hK _ _ ((KeepsOthers.alloc _ _).from _) ((Kept.refl _ _ W).alloc (by omega) (.cells #[.int .u8 k', .int .i64 n', .string s', .slice a' as'.length cap', .int .i64 lv] 50)) ⟨hi1.alloc _, ⟨D, hi4.kept (World.grownBy_alloc _ _ none) (by simp), hi5⟩, hi2.alloc (by omega) _, by simp; omega⟩ ⟨W.heap.size, hiz, World.alloc_heap_new _ _, rfl⟩
    clear hK
    have HK := Lib.hid hK'; clear hK' hi4 hi5
    simp only [NdIn.val]
    gi_wp2
    exact HK.out
  case body =>
    rintro l pre ⟨⟨d0, d1, d2, d3, ⟨k', n', s', as'⟩, lv⟩, hx, hlv⟩ a' W hl hrec ⟨hi1, ⟨D, hi4, hi5⟩, hi2, hiz⟩ ⟨Bx, hBx, hbx, rfl⟩ hlt
    have hx0 := hx
    simp only [IsTm] at hx
    obtain ⟨rfl, _, rfl, _, rfl, hs', a', cap', rfl, _, _⟩ := hx
    simp only at hbx hlv
    have q0 := cells_at hbx 0 _ rfl
    have q2 := cells_at hbx 2 _ rfl
    have qd := hi1.cell
    have HI4 := Lib.hid hi4; clear hi4
    have HI5 := Lib.hid hi5; clear hi5
    have HS := Lib.hid hs'
    have hnm : namesOf (pre ++ [(⟨⟨.int .u8 k', .int .i64 n', .string s', .slice a' as'.length cap', .mk k' n' s' as', lv⟩, hx0, hlv⟩ : NdIn w.heap.size w)]) = namesOf pre ++ (if decide (k' = 3) then [s'.data.toList] else []) := by
      unfold namesOf varNames
      rw [List.map_append, List.filter_append, List.map_append]
      congr 1
      by_cases h : k' = 3
      · simp [NdIn.key, Tm.isVar, Tm.kind, Tm.name, h]
      · simp [NdIn.key, Tm.isVar, Tm.kind, h]
    have HNM := Lib.hid hnm; clear hnm
    by_cases hk : k' = 3
    · have hk' : (k' == 3) = true := by simpa using hk
      have HKK := Lib.hid hk; clear hk
      gi_wp2_with (gi_at_mapUpdate; refine wpListIn_mapUpdate_own _ rfl _ _ _ 54 rfl 9 4 (Maps.string_keyed Tryz.underlying9) Tryz.underlying54 (plainElem Tryz.prog 4) (w.heap.size + 1) pre.length _ rfl HI4.out (by unfold maxLen; omega) _ _ _ rfl rfl (WideMaps.keyOf_string_mk Tryz.underlying9 HS.out) _ [] (plainElem_bool Tryz.underlying4 true) ?_; intro w1 hown1 hgrow1)
      refine ⟨KeepsFrom.of_grownBy hgrow1 (fun j e => by cases e; omega), ⟨(Below.refl _ W).grown hgrow1 (by omega) (fun j e => by cases e; omega), fun b hb cs t f hc => (hgrow1.block b (Array.getElem?_eq_some_iff.1 hc).1 (fun e => by cases e; omega)).trans hc⟩,
        hi1.kept hgrow1 (by simp), ⟨_, by simpa using hown1, ?_⟩, hi2.grown hgrow1 (by omega) (fun j e => by cases e; omega), by have := hgrow1.size; omega⟩
      rw [HNM.out, decide_eq_true HKK.out]
      exact HI5.out.put _ _
    · have hk' : (k' == 3) = false := by simpa using hk
      have HKK := Lib.hid hk; clear hk
      gi_wp2
      refine ⟨(KeepsOthers.refl _).from _, Kept.refl _ _ _, hi1, ⟨D, HI4.out.mono (by simp), ?_⟩, hi2, by omega⟩
      rw [HNM.out, decide_eq_false HKK.out]
      simpa using HI5.out
  case done =>
    rintro D ys W hD hys ⟨hbx, ⟨Dm, hown, hkey⟩, hB, hz⟩ hK
    have hc := hbx.cell
    have hlen : ys.length = (t.nodes 1).length := by rw [← hys, List.length_map]
    have hnm : namesOf ys = varNames (t.nodes 1) := by unfold namesOf; rw [hys]
    rw [hnm] at hkey
    have hszD := hkey.size
    have hvl : (varNames (t.nodes 1)).length ≤ (t.nodes 1).length := by unfold varNames; rw [List.length_map]; exact List.length_filter_le _ _
    have HOWN := Lib.hid hown; clear hown
    have HKEY := Lib.hid hkey; clear hkey
    have HM1 : Hid (Maps.size Dm ≤ maxLen) := by show _ ≤ _; unfold maxLen; omega
    have HM2 : Hid (Maps.size Dm * 16 ≤ 140737488355328) := by show _ ≤ _; omega
    clear hnm hlen hszD hvl hys
    have HKD := Lib.hid hK
    gi_wp2_with (first
      | (refine ⟨trivial, ?_⟩; gi_at_call 26; refine (Tryz.maps_Keys_26 _ _).mono ?_; rintro e w' ⟨rfl, rfl⟩)
      | (refine ⟨trivial, ?_⟩; gi_at_call 25; refine (Tryz.slices_Sorted_keys_25_26 (w.heap.size + 1) ys.length Dm (plainElem Tryz.prog 4) W HOWN.out HM1.out HM2.out).mono ?_; rintro e w' ⟨v, ss, rfl, hS, hrow, hnil, hb⟩))
    simp only [World.size_alloc] at hrow hb
    have hKD := (hb.block D (by have := (Array.getElem?_eq_some_iff.1 hK).1; omega)).trans ((Below.heap_alloc W _ D (Array.getElem?_eq_some_iff.1 hK).1).trans hK)
    refine ⟨by simp, .inl ⟨_, _, rfl, run_takeDeferred hKD, ?_⟩⟩
    refine ⟨_, results_tmp rfl _ _ _, ?_⟩
    have hso := HKEY.out.sorted hS
    refine ⟨v, ss.mergeSort (fun x y => decide (x ≤ y)), rfl, ⟨hso.1, hso.2⟩, ?_, ?_⟩
    · have h1 := (ownsRow_putObj hrow (.deferred none) hKD rfl).mono (base' := w.heap.size) (by have := hB.size; omega)
      rwa [← List.length_mergeSort (le := fun x y => decide (x ≤ y)) ss] at h1
    · have hBa : Below w.heap.size w (W.alloc (.cells #[.map (some (w.heap.size + 1))] 54)) := hB.alloc (by have := hB.size; omega) _
      exact (hBa.trans (hb.mono (by have := hB.size; omega))).trans (belowK_b (w := w) (Nat.le_refl _) w' D _ _ (by omega) hKD rfl rfl)
  case stop =>
    rintro D c pre W _ _ h _
    exact h.elim

theorem vars_any (t : Tm) (c0 c1 c2 c3 : Value) (w : World) (ht : IsTm w.heap.size w c0 c1 c2 c3 t) (hdep : t.depth < 4611686018427387900) (hcnt : (t.nodes 1).length ≤ 1000000000) :
    Calls Tryz.prog 17 #[.agg #[c0, c1, c2, c3]] w (VarsPost t w) :=
  callsIn_wide.1 (vars_in t c0 c1 c2 c3 w ht hdep hcnt)
end Go.Proofs.YtikofhldihimaaaGreatDoor
