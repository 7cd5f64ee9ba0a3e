/- The laws of the store: what they share. -/
import Derived.Test.YtcoieohbmkjpoaaGreatDoorB1g
namespace Go.Proofs.YtcoieohbmkjpoaaGreatDoor
open Go.RowKit Go.Shelf Go.Maps
attribute [local go_sem] Oper.semAt_some

/-- Guarded by an operation that is struck itself. -/
theorem wanted_un {ops : Array Oper} {tmps : Array Value} {o : Oper} {k d : Nat} {b : Bool} (hg : o.guard = some (k, b)) (hd : dstAt ops k d = true) (hk : tmps.getD d undef = undef) : Region.wanted o (yielded ops tmps) = false := by
  obtain ⟨oj, h1, h2⟩ := dstAt_spec hd
  unfold Region.wanted
  rw [hg]
  have : yielded ops tmps k = none := by
    rw [Array.getD_eq_getD_getElem?] at hk
    cases ht : tmps[d]? with
    | none => simp [yielded, h1, h2, ht]
    | some v =>
      rw [ht] at hk
      simp only [Option.getD_some] at hk
      subst hk
      simp [yielded, h1, h2, ht, undef]
  simp only [this]
  cases b <;> rfl
theorem AtS.good {w : World} {v0 v1 : Value} {x : Ato} (h : AtS (fun b => b < w.heap.size) w v0 v1 x) : Tm.GoodL x.2 := by
  obtain ⟨_, _, a, cap, _, _, hr⟩ := h
  by_cases hne : x.2 = []
  · rw [hne]; simp only [Tm.GoodL]
  · obtain ⟨b, off, _, _, ht⟩ := hr hne
    exact goodL_of (TmsS.toIs (fun _ h => h) ht)
theorem LstR.at2 {w : World} {lv : Value} {L : List Ato} (h : LstR w lv L) (i : Nat) (hi : i < L.length) : ∃ g c v0 v1, lv = .slice (some ⟨g, 0, none⟩) L.length c ∧ w.cell? ⟨g, i * 2, none⟩ = some v0 ∧ w.cell? ⟨g, i * 2 + 1, none⟩ = some v1 ∧ AtS (fun b => b < w.heap.size) w v0 v1 L[i] := by
  obtain ⟨g, c, a, k, h1, h2, h3, h4⟩ := h.at i hi
  exact ⟨g, c, _, _, h1, h2, h3, h4⟩
theorem LstR.good {w : World} {lv : Value} {L : List Ato} (h : LstR w lv L) : ∀ x ∈ L, Tm.GoodL x.2 := by
  intro x hx
  obtain ⟨i, hi, rfl⟩ := List.mem_iff_getElem.1 hx
  obtain ⟨_, _, _, _, _, _, _, h4⟩ := h.at2 i hi
  exact h4.good
theorem RdL.goodT {w : World} {lv : Value} {L : List Ato} (h : RdL w lv L) : ∀ x ∈ L, Tm.GoodL x.2 := by
  intro x hx
  obtain ⟨i, hi, rfl⟩ := List.mem_iff_getElem.1 hx
  obtain ⟨a, c, e, hl, hr⟩ := h
  obtain ⟨_, _, _, _, _, _, _, h3⟩ := hr i hi
  exact h3.good
theorem LstR.len {w : World} {lv : Value} {L : List Ato} (h : LstR w lv L) : L.length ≤ 9223372036854775807 := by
  obtain ⟨xs, ho, _⟩ := h
  rcases ho.2 with ⟨_, e⟩ | ⟨g, cap, cur, e, _, _, h1, h2, _⟩
  · omega
  · unfold maxLen at h2; omega
theorem LstR.shape {w : World} {lv : Value} {L : List Ato} (h : LstR w lv L) : ∃ a c, lv = .slice a L.length c := by
  obtain ⟨xs, ho, _⟩ := h
  exact own_slice ho
theorem addL_mem {A : List Ato} {x y : Ato} (h : y ∈ addL A x) : y ∈ A ∨ y = x := by
  unfold addL at h
  split at h
  · simpa using h
  · exact Or.inl h
theorem addL_nodup {A : List Ato} {x : Ato} (h : A.Nodup) : (addL A x).Nodup := by
  unfold addL
  split
  · next hc =>
    rw [List.nodup_append]
    refine ⟨h, by simp, ?_⟩
    intro a ha b hb
    rw [List.mem_singleton.1 hb]
    rintro rfl
    exact hc.2.1 ha
  · exact h
theorem pickL_len (L : List Ato) (is : List Nat) : (pickL L is).length = is.length := by simp [pickL]
theorem sortedN_lt {L : List Ato} {is : List Nat} (h : SortedN L is) (i : Nat) (hi : i < is.length) : is[i] < L.length := List.mem_range.1 (h.1.mem_iff.1 (List.getElem_mem hi))
theorem sortedN_len {L : List Ato} {is : List Nat} (h : SortedN L is) : is.length = L.length := by simpa using h.1.length_eq
theorem pickL_at {L : List Ato} {is : List Nat} (h : SortedN L is) (i : Nat) (hi : i < (pickL L is).length) : (pickL L is)[i] = L[is[i]'(by rwa [pickL_len] at hi)]'(sortedN_lt h i _) := by
  simp [pickL, sortedN_lt h i (by rwa [pickL_len] at hi)]
theorem sortedN_mem {L : List Ato} {is : List Nat} (h : SortedN L is) (i : Nat) (hi : i < (pickL L is).length) : (pickL L is)[i] ∈ L := by
  rw [pickL_at h i hi]
  exact List.getElem_mem _
theorem nodup_ne {α : Type} {l : List α} (h : l.Nodup) {i j : Nat} (hi : i < l.length) (hj : j < l.length) (hij : i ≠ j) : l[i] ≠ l[j] := by
  have hp := List.pairwise_iff_getElem.1 h
  rcases Nat.lt_or_gt_of_ne hij with q | q
  · exact hp i j hi hj q
  · exact (hp j i hj hi q).symm
theorem sortedN_next {L : List Ato} {is : List Nat} (h : SortedN L is) (hn : L.Nodup) (hg : ∀ x ∈ L, Tm.GoodL x.2) (i : Nat) (hi : i + 1 < (pickL L is).length) : cmpA ((pickL L is)[i]'(by omega)) (pickL L is)[i + 1] = -1 := by
  rw [pickL_at h i (by omega), pickL_at h (i + 1) hi]
  have hi' : i + 1 < is.length := by rwa [pickL_len] at hi
  have hnd : is.Nodup := h.1.nodup_iff.2 List.nodup_range
  have l1 := sortedN_lt h i (by omega)
  have l2 := sortedN_lt h (i + 1) hi'
  have hp := List.pairwise_iff_getElem.1 h.2 i (i + 1) (by omega) hi' (by omega)
  simp only [List.getElem?_eq_getElem l1, List.getElem?_eq_getElem l2, Option.getD_some] at hp
  have hne : L[is[i]] ≠ L[is[i + 1]] := nodup_ne hn l1 l2 (nodup_ne hnd (by omega) hi' (by omega))
  have hz := mt (cmpA_zero L[is[i]] L[is[i + 1]] (hg _ (List.getElem_mem _)) (hg _ (List.getElem_mem _))).1 hne
  have hng := cmpA_neg L[is[i]] L[is[i + 1]] (hg _ (List.getElem_mem _)) (hg _ (List.getElem_mem _))
  have hs := cmpA_sg L[is[i]] L[is[i + 1]]
  unfold Sg at hs
  omega
theorem compareA_gen (x y : Ato) (v0 v1 u0 u1 : Value) (w : World) (h : AtS (fun b => b < w.heap.size) w v0 v1 x) (h' : AtS (fun b => b < w.heap.size) w u0 u1 y) :
    Calls Tryz.prog 12 #[.agg #[v0, v1], .agg #[u0, u1]] w fun e w' => e = .returned (.int .i64 (cmpA x y)) ∧ Below w.heap.size w w' := by
  obtain ⟨a, cap, rfl, rfl⟩ := h.shape
  obtain ⟨a', cap', rfl, rfl⟩ := h'.shape
  exact (compareA_any x y a a' cap cap' _ _ w h (fun _ h => h) h' (fun _ h => h)).mono fun e w' ⟨h1, h2⟩ => ⟨h1, h2.low⟩
theorem validA_gen (x : Ato) (v0 v1 : Value) (w : World) (h : AtS (fun b => b < w.heap.size) w v0 v1 x) (hc : cntA x ≤ 1000000) :
    Calls Tryz.prog 10 #[.agg #[v0, v1]] w fun e w' => e = .returned (.bool (validA x)) ∧ Below w.heap.size w w' := by
  obtain ⟨a, cap, rfl, rfl⟩ := h.shape
  exact validA_any x a cap _ w h (fun _ h => h) hc
theorem alloc2 (w : World) (o1 o2 : Obj) : Below w.heap.size w ((w.alloc o1).alloc o2) ∧ ((w.alloc o1).alloc o2).heap[w.heap.size]? = some o1 ∧ ((w.alloc o1).alloc o2).heap[w.heap.size + 1]? = some o2 := by
  refine ⟨((Below.refl _ w).alloc (Nat.le_refl _) _).alloc (by simp) _, ?_, ?_⟩
  · exact (Below.heap_alloc _ _ _ (by simp)).trans (World.alloc_heap_new _ _)
  · have := World.alloc_heap_new (w.alloc o1) o2
    simpa [World.size_alloc] using this
theorem alloc3 (w : World) (o1 o2 o3 : Obj) : Below w.heap.size w (((w.alloc o1).alloc o2).alloc o3) ∧ (((w.alloc o1).alloc o2).alloc o3).heap[w.heap.size]? = some o1 ∧ (((w.alloc o1).alloc o2).alloc o3).heap[w.heap.size + 1]? = some o2 ∧ (((w.alloc o1).alloc o2).alloc o3).heap[w.heap.size + 1 + 1]? = some o3 := by
  refine ⟨(((Below.refl _ w).alloc (Nat.le_refl _) _).alloc (by simp) _).alloc (by simp <;> omega) _, ?_, ?_, ?_⟩
  · exact (Below.heap_alloc _ _ _ (by simp <;> omega)).trans ((Below.heap_alloc _ _ _ (by simp)).trans (World.alloc_heap_new _ _))
  · refine (Below.heap_alloc _ _ _ (by simp)).trans ?_
    have := World.alloc_heap_new (w.alloc o1) o2
    simpa [World.size_alloc] using this
  · have := World.alloc_heap_new ((w.alloc o1).alloc o2) o3
    simpa [World.size_alloc] using this
mutual
theorem isTm_S {B : Nat} {w : World} {c0 c1 c2 c3 : Value} : ∀ {t : Tm}, IsTm B w c0 c1 c2 c3 t → TmS (fun b => b < B) w c0 c1 c2 c3 t
  | .mk k n s us, h => by
    simp only [IsTm] at h
    simp only [TmS]
    obtain ⟨e0, hk, e1, hn, e2, hs, a, cap, e3, hl, hr⟩ := h
    refine ⟨e0, hk, e1, hn, e2, hs, a, cap, e3, hl, fun hne => ?_⟩
    obtain ⟨b, off, h1, h2, h3⟩ := hr hne
    exact ⟨b, off, h1, h2, isTms_S h3⟩
theorem isTms_S {B : Nat} {w : World} {b off : Nat} : ∀ {ts : List Tm}, IsTms B w b off ts → TmsS (fun b => b < B) w b off ts
  | [], _ => by simp only [TmsS]
  | t :: ts, h => by
    simp only [IsTms] at h
    obtain ⟨d0, d1, d2, d3, q0, q1, q2, q3, q4, q5⟩ := h
    simp only [TmsS]
    exact ⟨d0, d1, d2, d3, q0, q1, q2, q3, isTm_S q4, isTms_S q5⟩
end
/-- The same atom? -/
theorem sameA_cmp (x y : Ato) (hx : Tm.GoodL x.2) (hy : Tm.GoodL y.2) : sameA x y = decide (cmpA x y = 0) := by
  rw [Bool.eq_iff_iff, sameA_iff, decide_eq_true_iff, cmpA_zero x y hx hy]
open Classical in
theorem has_q (B S : Nat) (lab : Lab) (L : List Ato) (x : Ato) (v0 v1 : Value) (q : Bool) (w : World) (hI : StI w B lab S L) (hx : AtS (fun b => b < w.heap.size) w v0 v1 x) (hc : cntA x ≤ 1000000) (hq : q = true ↔ x ∈ L) :
    Calls Tryz.prog 17 #[.pointer (some ⟨S, 0, none⟩), .agg #[v0, v1]] w fun e w' => e = .returned (.bool q) ∧ Below w.heap.size w w' := by
  have h := has_row B S lab L x v0 v1 w hI hx hc
  have e : decide (x ∈ L) = q := by rw [Bool.eq_iff_iff, decide_eq_true_iff]; exact hq.symm
  rwa [e] at h
/-- Room for a call of Add: what lies below B is the store's no more. -/
theorem StI.low {w : World} {B : Nat} {lab : Lab} {S : Nat} {L : List Ato} (h : StI w B lab S L) {b : Nat} (hb : b < B) : lab b = .free := by
  apply Classical.byContradiction
  intro hne
  have := (h.mine b hne).1
  omega
theorem add_low (B S : Nat) (lab : Lab) (L : List Ato) (x : Ato) (v0 v1 : Value) (w : World) (hI : StI w B lab S L) (hB : B ≤ w.heap.size) (hA : AtS (fun b => b < B) w v0 v1 x) (hc : cntA x ≤ 1000000) :
    Calls Tryz.prog 15 #[.pointer (some ⟨S, 0, none⟩), .agg #[v0, v1]] w fun e w' => e = .returned (.tuple #[.bool (addR L x).1, .int .i64 (addR L x).2]) ∧ ∃ lab', StI w' B lab' S (addL L x) ∧ (∀ b, b < w.heap.size → lab' b = lab b) ∧ Stp lab Own w w' ∧ Below B w w' := by
  obtain ⟨a, cap, rfl, rfl⟩ := hA.shape
  refine (add_any B S lab L x a cap w hI (hA.same (fun b h => ⟨Nat.lt_of_lt_of_le h hB, hI.low h⟩) (fun _ _ => rfl)) hc).mono ?_
  rintro e w' ⟨h1, lab', h2, h3, h4⟩
  exact ⟨h1, lab', h2, h3, h4, h4.low hB (fun b h => (hI.mine b h).1)⟩
end Go.Proofs.YtcoieohbmkjpoaaGreatDoor
