/- The laws of match: two records made and written in a drawn order. -/
import Derived.Test.YtlmdhlckgbgfhaaGreatDoorZQd
import Derived.Test.YtlmdhlckgbgfhaaGreatDoorZj
set_option maxRecDepth 100000
set_option maxHeartbeats 400000000
namespace Go.Proofs.YtlmdhlckgbgfhaaGreatDoor
open Go.RowKit Go.Shelf

theorem setAtom (W : World) (b : Nat) (c0 c1 d0 d1 : Value) (t : TypeId) (h : W.heap[b]? = some (.cells #[c0, c1] t (0, 0))) : ∃ W', (W.setCell ⟨b, 0, none⟩ d0).setCell ⟨b, 1, none⟩ d1 = W' ∧ W'.heap[b]? = some (.cells #[d0, d1] t (0, 0)) ∧ Below b W W' ∧ W'.heap.size = W.heap.size ∧ ∀ k, k ≠ b → W'.heap[k]? = W.heap[k]? := by
 refine ⟨_, rfl, ?_, ((Below.refl b W).setCell (p := ⟨b, 0, none⟩) (Nat.le_refl _) _).setCell (p := ⟨b, 1, none⟩) (Nat.le_refl _) _, by simp [World.setCell], fun k hk => ?_⟩
 · simp [World.setCell, Array.getElem?_modify, h]
 · simp [World.setCell, Array.getElem?_modify, Ne.symm hk]
theorem lget {l : Array Bool} {i j : Nat} (hi : i < l.size) : (l.setIfInBounds i true).getD j false = if i = j then true else l.getD j false := by
 by_cases h : i = j
 · subst h; simp [Array.getD_eq_getD_getElem?, hi]
 · simp [Array.getD_eq_getD_getElem?, Array.getElem?_setIfInBounds_ne h, h]
theorem tget {t : Array Value} {i j : Nat} {v : Value} (hi : i < t.size) : (t.setIfInBounds i v).getD j undef = if i = j then v else t.getD j undef := by
 by_cases h : i = j
 · subst h; simp [Array.getD_eq_getD_getElem?, hi]
 · simp [Array.getD_eq_getD_getElem?, Array.getElem?_setIfInBounds_ne h, h]
structure J6 (PA VA : Value) (PC VC ZC : Array Value) (ty : TypeId) (tm0 : Array Value) (w0 : World) (l : Array Bool) (a : Act) (w : World) : Prop where
 sz : l.size = 6
 below : Below w0.heap.size w0 w
 df : a.defers = []
 ts : a.tmps.size = tm0.size
 out : ∀ t, t ≠ 10 → t ≠ 11 → t ≠ 53 → t ≠ 54 → a.tmps.getD t undef = tm0.getD t undef
 s0 : l.getD 0 false = true → a.tmps.getD 53 undef = PA
 s1 : l.getD 1 false = true → a.tmps.getD 54 undef = VA
 s2 : l.getD 2 false = true → ∃ q, a.tmps.getD 10 undef = .pointer (some ⟨q, 0, none⟩) ∧ w0.heap.size ≤ q ∧ w.heap[q]? = some (.cells (if l.getD 4 false = true then PC else ZC) ty (0, 0))
 s3 : l.getD 3 false = true → ∃ q, a.tmps.getD 11 undef = .pointer (some ⟨q, 0, none⟩) ∧ w0.heap.size ≤ q ∧ w.heap[q]? = some (.cells (if l.getD 5 false = true then VC else ZC) ty (0, 0))
 ne : l.getD 2 false = true → l.getD 3 false = true → a.tmps.getD 10 undef ≠ a.tmps.getD 11 undef
 c4 : l.getD 4 false = true → l.getD 2 false = true
 c5 : l.getD 5 false = true → l.getD 3 false = true
section
variable {PA VA : Value} {PC VC ZC : Array Value} {ty : TypeId} {tm0 : Array Value} {w0 : World} {l : Array Bool} {a : Act} {w : World}
theorem J6.load0 (h : J6 PA VA PC VC ZC ty tm0 w0 l a w) (hn : 55 ≤ tm0.size) : J6 PA VA PC VC ZC ty tm0 w0 (l.setIfInBounds 0 true) ⟨a.tmps.setIfInBounds 53 PA, a.defers⟩ w := by
 have hl := fun j => lget (l := l) (i := 0) (j := j) (by rw [h.sz]; decide)
 have ht := fun j => tget (t := a.tmps) (i := 53) (j := j) (v := PA) (by rw [h.ts]; omega)
 refine ⟨by simp [h.sz], h.below, h.df, by simp [h.ts], fun t h1 h2 h3 h4 => ?_, fun _ => ?_, ?_, ?_, ?_, ?_, ?_, ?_⟩
 · rw [ht, if_neg (Ne.symm h3)]; exact h.out t h1 h2 h3 h4
 · rw [ht, if_pos rfl]
 · rw [hl, ht]; exact h.s1
 · rw [hl, hl, ht]; exact h.s2
 · rw [hl, hl, ht]; exact h.s3
 · rw [hl, hl, ht, ht]; exact h.ne
 · rw [hl, hl]; exact h.c4
 · rw [hl, hl]; exact h.c5
theorem J6.load1 (h : J6 PA VA PC VC ZC ty tm0 w0 l a w) (hn : 55 ≤ tm0.size) : J6 PA VA PC VC ZC ty tm0 w0 (l.setIfInBounds 1 true) ⟨a.tmps.setIfInBounds 54 VA, a.defers⟩ w := by
 have hl := fun j => lget (l := l) (i := 1) (j := j) (by rw [h.sz]; decide)
 have ht := fun j => tget (t := a.tmps) (i := 54) (j := j) (v := VA) (by rw [h.ts]; omega)
 refine ⟨by simp [h.sz], h.below, h.df, by simp [h.ts], fun t h1 h2 h3 h4 => ?_, ?_, fun _ => ?_, ?_, ?_, ?_, ?_, ?_⟩
 · rw [ht, if_neg (Ne.symm h4)]; exact h.out t h1 h2 h3 h4
 · rw [hl, ht]; exact h.s0
 · rw [ht, if_pos rfl]
 · rw [hl, hl, ht]; exact h.s2
 · rw [hl, hl, ht]; exact h.s3
 · rw [hl, hl, ht, ht]; exact h.ne
 · rw [hl, hl]; exact h.c4
 · rw [hl, hl]; exact h.c5
theorem J6.alloc2 (h : J6 PA VA PC VC ZC ty tm0 w0 l a w) (hn : 55 ≤ tm0.size) (hi : l.getD 2 false = false) : J6 PA VA PC VC ZC ty tm0 w0 (l.setIfInBounds 2 true) ⟨a.tmps.setIfInBounds 10 (.pointer (some ⟨w.heap.size, 0, none⟩)), a.defers⟩ (w.alloc (.cells ZC ty)) := by
 have hl := fun j => lget (l := l) (i := 2) (j := j) (by rw [h.sz]; decide)
 have ht := fun j => tget (t := a.tmps) (i := 10) (j := j) (v := .pointer (some ⟨w.heap.size, 0, none⟩)) (by rw [h.ts]; omega)
 have h4 : l.getD 4 false = false := by
   cases e : l.getD 4 false with
   | false => rfl
   | true => rw [h.c4 e] at hi; cases hi
 refine ⟨by simp [h.sz], h.below.alloc h.below.size _, h.df, by simp [h.ts], fun t h1 h2 h3 h4 => ?_, ?_, ?_, fun _ => ?_, fun e => ?_, fun _ e => ?_, fun _ => ?_, ?_⟩
 · rw [ht, if_neg (Ne.symm h1)]; exact h.out t h1 h2 h3 h4
 · rw [hl, ht]; exact h.s0
 · rw [hl, ht]; exact h.s1
 · refine ⟨w.heap.size, by rw [ht, if_pos rfl], h.below.size, ?_⟩
   rw [hl, if_neg (show ¬ (2 : Nat) = 4 by decide), if_neg (by rw [h4]; decide)]
   exact World.alloc_heap_new _ _
 · rw [hl] at e
   obtain ⟨q, h1, h2, h3⟩ := h.s3 e
   refine ⟨q, by rw [ht]; exact h1, h2, ?_⟩
   rw [hl]
   exact (Below.heap_alloc _ _ _ (gL h3)).trans h3
 · rw [hl] at e
   obtain ⟨q, h1, h2, h3⟩ := h.s3 e
   rw [ht, ht, if_pos rfl, if_neg (by decide), h1]
   intro e2
   have := (gL h3)
   cases e2
   omega
 · rw [hl, if_pos rfl]
 · rw [hl, hl]; exact h.c5
theorem J6.alloc3 (h : J6 PA VA PC VC ZC ty tm0 w0 l a w) (hn : 55 ≤ tm0.size) (hi : l.getD 3 false = false) : J6 PA VA PC VC ZC ty tm0 w0 (l.setIfInBounds 3 true) ⟨a.tmps.setIfInBounds 11 (.pointer (some ⟨w.heap.size, 0, none⟩)), a.defers⟩ (w.alloc (.cells ZC ty)) := by
 have hl := fun j => lget (l := l) (i := 3) (j := j) (by rw [h.sz]; decide)
 have ht := fun j => tget (t := a.tmps) (i := 11) (j := j) (v := .pointer (some ⟨w.heap.size, 0, none⟩)) (by rw [h.ts]; omega)
 have h4 : l.getD 5 false = false := by
   cases e : l.getD 5 false with
   | false => rfl
   | true => rw [h.c5 e] at hi; cases hi
 refine ⟨by simp [h.sz], h.below.alloc h.below.size _, h.df, by simp [h.ts], fun t h1 h2 h3 h4 => ?_, ?_, ?_, fun e => ?_, fun _ => ?_, fun e _ => ?_, ?_, fun _ => ?_⟩
 · rw [ht, if_neg (Ne.symm h2)]; exact h.out t h1 h2 h3 h4
 · rw [hl, ht]; exact h.s0
 · rw [hl, ht]; exact h.s1
 · rw [hl] at e
   obtain ⟨q, h1, h2, h3⟩ := h.s2 e
   refine ⟨q, by rw [ht]; exact h1, h2, ?_⟩
   rw [hl]
   exact (Below.heap_alloc _ _ _ (gL h3)).trans h3
 · refine ⟨w.heap.size, by rw [ht, if_pos rfl], h.below.size, ?_⟩
   rw [hl, if_neg (show ¬ (3 : Nat) = 5 by decide), if_neg (by rw [h4]; decide)]
   exact World.alloc_heap_new _ _
 · rw [hl] at e
   obtain ⟨q, h1, h2, h3⟩ := h.s2 e
   rw [ht, ht, if_pos rfl, if_neg (by decide), h1]
   intro e2
   have := (gL h3)
   cases e2
   omega
 · rw [hl, hl]; exact h.c4
 · rw [hl, if_pos rfl]
theorem J6.store4 (h : J6 PA VA PC VC ZC ty tm0 w0 l a w) (l2 : l.getD 2 false = true) {q : Nat} (hq : a.tmps.getD 10 undef = .pointer (some ⟨q, 0, none⟩)) (hqb : w0.heap.size ≤ q) {w' : World} (hw : w'.heap[q]? = some (.cells PC ty (0, 0))) (hb : Below q w w') (hk : ∀ k, k ≠ q → w'.heap[k]? = w.heap[k]?) :
   J6 PA VA PC VC ZC ty tm0 w0 (l.setIfInBounds 4 true) a w' := by
 have hl := fun j => lget (l := l) (i := 4) (j := j) (by rw [h.sz]; decide)
 refine ⟨by simp [h.sz], h.below.trans (hb.mono hqb), h.df, h.ts, h.out, ?_, ?_, fun _ => ⟨q, hq, hqb, ?_⟩, fun e => ?_, ?_, fun _ => ?_, ?_⟩
 · rw [hl]; exact h.s0
 · rw [hl]; exact h.s1
 · rw [hl, if_pos rfl, if_pos rfl]; exact hw
 · rw [hl] at e
   obtain ⟨p, h1, h2, h3⟩ := h.s3 e
   refine ⟨p, h1, h2, ?_⟩
   rw [hl]
   refine (hk p fun e2 => ?_).trans h3
   subst e2
   exact h.ne l2 e (hq.trans h1.symm)
 · rw [hl, hl]; exact h.ne
 · rw [hl]; exact l2
 · rw [hl, hl]; exact h.c5
theorem J6.store5 (h : J6 PA VA PC VC ZC ty tm0 w0 l a w) (l3 : l.getD 3 false = true) {q : Nat} (hq : a.tmps.getD 11 undef = .pointer (some ⟨q, 0, none⟩)) (hqb : w0.heap.size ≤ q) {w' : World} (hw : w'.heap[q]? = some (.cells VC ty (0, 0))) (hb : Below q w w') (hk : ∀ k, k ≠ q → w'.heap[k]? = w.heap[k]?) :
   J6 PA VA PC VC ZC ty tm0 w0 (l.setIfInBounds 5 true) a w' := by
 have hl := fun j => lget (l := l) (i := 5) (j := j) (by rw [h.sz]; decide)
 refine ⟨by simp [h.sz], h.below.trans (hb.mono hqb), h.df, h.ts, h.out, ?_, ?_, fun e => ?_, fun _ => ⟨q, hq, hqb, ?_⟩, ?_, ?_, fun _ => ?_⟩
 · rw [hl]; exact h.s0
 · rw [hl]; exact h.s1
 · rw [hl] at e
   obtain ⟨p, h1, h2, h3⟩ := h.s2 e
   refine ⟨p, h1, h2, ?_⟩
   rw [hl]
   refine (hk p fun e2 => ?_).trans h3
   subst e2
   exact h.ne e l3 (h1.trans hq.symm)
 · rw [hl, if_pos rfl, if_pos rfl]; exact hw
 · rw [hl, hl]; exact h.ne
 · rw [hl, hl]; exact h.c4
 · rw [hl]; exact l3
end
def Six (P : Program) (ops : Array Oper) (Q : Exit → Act → World → Prop) (J : Array Bool → Act → World → Prop) : Nat → List Oper → Prop
 | _, [] => True
 | i, o :: r => (∀ l a w, J l a w → l.getD i true = false → (∀ e ∈ o.after, Region.binds .any e = true → l.getD e.on false = true) → Region.wanted o (yielded ops a.tmps) = true ∧ o.wp P a w (fun a' w' => J (l.setIfInBounds i true) a' w') Q) ∧ Six P ops Q J (i + 1) r
theorem six_get {P : Program} {ops : Array Oper} {Q : Exit → Act → World → Prop} {J : Array Bool → Act → World → Prop} : ∀ {l : List Oper} {k : Nat}, Six P ops Q J k l → ∀ i o, l[i]? = some o → ∀ l a w, J l a w → l.getD (k + i) true = false → (∀ e ∈ o.after, Region.binds .any e = true → l.getD e.on false = true) → Region.wanted o (yielded ops a.tmps) = true ∧ o.wp P a w (fun a' w' => J (l.setIfInBounds (k + i) true) a' w') Q
 | [], _, _, i, o, h => by simp at h
 | x :: r, k, hs, i, o, h => by
   cases i with
   | zero => simp at h; subst h; exact hs.1
   | succ i =>
     have := six_get hs.2 i o (by simpa using h)
     rwa [show k + 1 + i = k + (i + 1) by omega] at this
theorem wp_six {P : Program} {ops : Array Oper} {Q : Exit → Act → World → Prop} {id : Nat} {a0 : Act} {w0 : World} (PA VA : Value) (PC VC ZC : Array Value) (ty : TypeId) (hm : P.follows .mixedOrders = true) (hok : regionOkB ops a0.tmps.size = true) (h6 : ops.size = 6) (hdf : a0.defers = [])
   (step : Six P ops Q (J6 PA VA PC VC ZC ty a0.tmps w0) 0 ops.toList)
   (fin : ∀ a w, J6 PA VA PC VC ZC ty a0.tmps w0 (Array.replicate 6 true) a w → Q .normal a w) : (Code.region id ops true).wp P Q a0 w0 := by
 refine wp_region_any hm (wpAny_invB hok (J6 PA VA PC VC ZC ty a0.tmps w0) (fun _ _ _ h => h.sz.trans h6.symm) ?_ (by rw [h6]; exact fin) ops.size _ a0 _ ?_ ?_)
 · intro l a w i o hJ hil ho hie
   obtain ⟨hw, hwp⟩ := six_get step i o (by simpa using ho) l a w hJ (by rw [Nat.zero_add]; exact hil) hie
   rw [Nat.zero_add] at hwp
   unfold wpOp
   simp only [ho, hw, if_true]
   exact Or.inl hwp
 · have hf : ∀ i, (Array.replicate ops.size false).getD i false = true → False := fun i h => by
     by_cases hi : i < ops.size <;> simp [Array.getD_eq_getD_getElem?, hi] at h
   exact ⟨by simp [h6], bR.drew, hdf, rfl, fun _ _ _ _ _ => rfl, fun h => (hf _ h).elim, fun h => (hf _ h).elim, fun h => (hf _ h).elim, fun h => (hf _ h).elim, fun h => (hf _ h).elim, fun h => (hf _ h).elim, fun h => (hf _ h).elim⟩
 · exact Nat.le_trans (List.length_filter_le _ _) (by simp)
end Go.Proofs.YtlmdhlckgbgfhaaGreatDoor
