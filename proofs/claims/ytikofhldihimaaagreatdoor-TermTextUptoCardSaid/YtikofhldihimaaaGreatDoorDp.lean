/- Package term: Depth. -/
import Derived.Test.YtikofhldihimaaaGreatDoorIt
namespace Go.Proofs.YtikofhldihimaaaGreatDoor
open Go.RowKit Go.Shelf
attribute [local go_sem] Oper.semAt_some

/-- A block of cells stays what it is under the loop's book-keeping. -/
theorem cells_own {β : Type} (B : Nat) (t : TypeId) (f : β → Array Value) : Own (fun s W => W.heap[B]? = some (.cells (f s) t (0, 0))) := fun s X Y row hs hg hrow =>
  (hg.block B (Array.getElem?_eq_some_iff.1 hs).1 (fun e' => by obtain ⟨o, ho, hc⟩ := hrow B e'.symm; rw [show X.heap[B]? = _ from hs] at ho; cases ho; cases hc)).trans hs

def maxLv {n₀ : Nat} {wt : World} (pre : List (NdIn n₀ wt)) : Nat := (pre.map fun x => x.1.l).foldl max 0

mutual
theorem Tm.levels (l : Nat) (hl : 1 ≤ l) : ∀ (t : Tm) (m : Nat), ((t.nodes l).map (·.2)).foldl max m = max m (l - 1 + t.depth)
  | .mk k n s args, m => by
    simp only [Tm.nodes, List.map_cons, List.foldl_cons, Tm.depth]
    rw [Tm.levelsL (l + 1) (by omega) args (max m l) (by omega)]
    omega
theorem Tm.levelsL (l : Nat) (hl : 1 ≤ l) : ∀ (ts : List Tm) (m : Nat), l - 1 ≤ m → ((Tm.nodesL l ts).map (·.2)).foldl max m = max m (l - 1 + Tm.depthL ts)
  | [], m, h => by simp only [Tm.nodesL, List.map_nil, List.foldl_nil, Tm.depthL]; omega
  | t :: ts, m, h => by
    simp only [Tm.nodesL, List.map_append, List.foldl_append, Tm.depthL]
    rw [Tm.levels l hl t m, Tm.levelsL l hl ts _ (by omega)]
    omega
end
theorem maxLv_all {n₀ : Nat} {wt : World} {ys : List (NdIn n₀ wt)} {t : Tm} (h : ys.map NdIn.key = t.nodes 1) : maxLv ys = t.depth := by
  have e : (ys.map fun x => x.1.l) = (t.nodes 1).map (·.2) := by rw [← h, List.map_map]; rfl
  unfold maxLv
  rw [e, Tm.levels 1 (by omega)]
  have : 1 ≤ t.depth := by cases t; simp only [Tm.depth]; omega
  omega

set_option maxRecDepth 100000 in
set_option maxHeartbeats 2000000 in
theorem depth_in (F : Fence) (hd : F.depth = none) (hro : F.round = none) (n : Nat) (hn : 6 ≤ n) (h0 : F.fn 13) (h1 : F.fn 23) (h2 : F.fn 41) (h3 : F.fn 42)
    (t : Tm) (c0 c1 c2 c3 : Value) (w : World) (ht : IsTm w.heap.size w c0 c1 c2 c3 t) (hdep : t.depth < 4611686018427387900) :
    CallsIn F n Tryz.prog 13 #[.agg #[c0, c1, c2, c3]] w fun e w' => e = .returned (.int .i64 t.depth) ∧ Below w.heap.size w w' := by
  have h1n : 1 ≤ n := by omega
  have hdd : ∀ k : Nat, (F.depth.isSome = true → 1 ≤ k) := fun k h => by rw [hd] at h; cases h
  refine callsIn_of_wp_marks Tryz.func13 rfl h0 ?_ hro
  simp only [Tryz.ntmps13, List.size_toArray, List.length_cons, List.length_nil, Nat.reduceAdd, Nat.reduceSub, Array.replicate_succ, Array.replicate_zero, List.push_toArray, List.append_toArray, List.nil_append, List.cons_append]
  gi_wp2_with (gi_at_call 23; refine (subterms_in F (n - 1) h1 hro _ _ _ _ _).mono ?_; rintro e w' ⟨rfl, rfl⟩)
  obtain ⟨W0, hW0⟩ : ∃ W0, ((w.alloc (.cells #[c0, c1, c2, c3] 24)).alloc (.cells #[.int .i64 0] 3)).alloc (.cells #[c0, c1, c2, c3] 24) = W0 := ⟨_, rfl⟩
  have hsz : W0.heap.size = w.heap.size + 3 := by rw [← hW0]; simp
  have hb0 : Below w.heap.size w W0 := by rw [← hW0]; exact (((Below.refl _ w).alloc (Nat.le_refl _) _).alloc (by simp) _).alloc (by simp; omega) _
  have hbd : Boxed W0 (w.heap.size + 1) 3 (.int .i64 0) := by
    rw [← hW0]; have := Boxed.new (w.alloc (.cells #[c0, c1, c2, c3] 24)) 3 (.int .i64 0); rw [World.size_alloc] at this; exact this.alloc _
  have hbt : W0.heap[w.heap.size + 1 + 1]? = some (.cells #[c0, c1, c2, c3] 24 (0, 0)) := by
    rw [← hW0]; have := World.alloc_heap_new ((w.alloc (.cells #[c0, c1, c2, c3] 24)).alloc (.cells #[.int .i64 0] 3)) (.cells #[c0, c1, c2, c3] 24)
    rw [World.size_alloc, World.size_alloc] at this; exact this
  rw [hW0]
  clear hW0
  refine wpIn_rangeFunc_ownH hro h1n (gf := 41) (lb := #[.pointer (some ⟨w.heap.size + 1 + 1, 0, none⟩)]) rfl h2 (enters_of Tryz.func41 (by kernel_rfl) rfl)
    (subterms_stops F hd (n - 1) h2 h3 hro (w.heap.size + 1 + 1) w.heap.size w W0 t c0 c1 c2 c3 (by omega) hb0 ht hdep hbt) Kept.trans
    (fun W l o o' hl h hc _ => Kept.putObj o' (by omega) (by have := (Array.getElem?_eq_some_iff.1 h).1; omega) h hc) (Below.refl _ _) (fun _ => rfl)
    (fun pre W => Boxed W (w.heap.size + 1) 3 (.int .i64 (maxLv pre)) ∧ Below w.heap.size w W ∧ W0.heap.size ≤ W.heap.size) (fun _ _ _ => False)
    (OwnFrom.and (Own.from (boxed_own _ _ fun pre => .int .i64 (maxLv pre)) _) (OwnFrom.and (ownFrom_below (Nat.le_refl _) (by omega)) (fun _ _ _ _ hs hg _ => Nat.le_trans hs hg.size))) (fun _ _ _ _ _ hs _ _ => hs) ⟨hbd, hb0, Nat.le_refl _⟩
    (fun x a' W => ∃ Bx, W0.heap.size ≤ Bx ∧ W.heap[Bx]? = some (.cells #[x.1.c0, x.1.c1, x.1.c2, x.1.c3, .int .i64 x.1.l] 50 (0, 0)) ∧
      a' = { tmps := #[Value.agg #[c0, c1, c2, c3], Value.pointer (some { block := w.heap.size, off := 0 }), Value.int IntKind.i64 0,
          Value.pointer (some { block := w.heap.size + 1, off := 0 }), Value.pointer (some { block := Bx, off := 0 }), Value.agg #[c0, c1, c2, c3],
          Value.func (Fn.func 41) #[] #[Value.pointer (some { block := w.heap.size + 1 + 1, off := 0 })], x.val, undef,
          undef, undef, undef, undef], defers := [] })
    (fun x a' s X Y row hs hg hr => by
      obtain ⟨Bx, h1, h2, h3⟩ := hs
      exact ⟨Bx, h1, cells_own Bx 50 (fun _ : Unit => #[x.1.c0, x.1.c1, x.1.c2, x.1.c3, .int .i64 x.1.l]) () X Y row h2 hg (fun r e => (hr r e).2), h3⟩) ?assign ?body ?done ?stop
  case assign =>
    rintro l pre ⟨⟨d0, d1, d2, d3, ⟨k', n', s', as'⟩, lv⟩, hx, hlv⟩ W K hi hK
    have hx0 := hx
    simp only [IsTm] at hx
    obtain ⟨rfl, _, rfl, _, rfl, _, a', cap', rfl, _, _⟩ := hx
    have hiz := hi.2.2
    have hK' := hK _ _ ((KeepsOthers.alloc _ _).from _) ((Kept.refl _ _ W).alloc (by omega) (.cells #[.int .u8 k', .int .i64 n', .string s', .slice a' as'.length cap', .int .i64 lv] 50)) ⟨hi.1.alloc _, hi.2.1.alloc (by omega) _, by simp; omega⟩ ⟨W.heap.size, hi.2.2, World.alloc_heap_new _ _, rfl⟩
    clear hK
    have HK := Lib.hid hK'; clear hK'
    simp only [NdIn.val]
    gi_wp2
    exact HK.out
  case body =>
    rintro l pre ⟨⟨d0, d1, d2, d3, ⟨k', n', s', as'⟩, lv⟩, hx, hlv⟩ a' W hl hrec hi ⟨Bx, hBx, hbx, rfl⟩ hlt
    have hx0 := hx
    simp only [IsTm] at hx
    obtain ⟨rfl, _, rfl, _, rfl, _, a', cap', rfl, _, _⟩ := hx
    simp only at hbx hlv
    have q4 := cells_at hbx 4 _ rfl
    have qd := hi.1.cell
    have qf := hi.1.frozen
    have hm : maxLv (pre ++ [(⟨⟨.int .u8 k', .int .i64 n', .string s', .slice a' as'.length cap', .mk k' n' s' as', lv⟩, hx0, hlv⟩ : NdIn w.heap.size w)]) = max (maxLv pre) lv := by
      unfold maxLv; simp
    have HM := Lib.hid hm; clear hm
    gi_wp2
    all_goals
      refine ⟨(KeepsOthers.setCell _ _ _).from _, (Kept.refl _ _ W).setCell (by omega) (by omega) 0 _, ?_, hi.2.1.setCell (p := ⟨w.heap.size + 1, 0, none⟩) (by simp) _, by simp; omega⟩
      rw [HM.out]
      first | (rw [Nat.max_eq_left (by omega)]; exact hi.1.set _) | (rw [Nat.max_eq_right (by omega)]; exact hi.1.set _)
  case done =>
    rintro D ys W hD hys ⟨hbx, hB, hz⟩ hK
    have hc := hbx.cell
    have HE := Lib.hid (maxLv_all hys); clear hys
    gi_wp2
    refine ⟨by simp, .inl ⟨_, _, rfl, run_takeDeferred hK, ?_⟩⟩
    refine ⟨_, results_tmp rfl _ _ _, ?_⟩
    exact ⟨by rw [← HE.out]; rfl, hB.trans (belowK_b (w := w) (Nat.le_refl _) W D _ _ (by omega) hK rfl rfl)⟩
  case stop =>
    rintro D c pre W _ _ h _
    exact h.elim

theorem depth_any (t : Tm) (c0 c1 c2 c3 : Value) (w : World) (ht : IsTm w.heap.size w c0 c1 c2 c3 t) (hdep : t.depth < 4611686018427387900) :
    Calls Tryz.prog 13 #[.agg #[c0, c1, c2, c3]] w fun e w' => e = .returned (.int .i64 t.depth) ∧ Below w.heap.size w w' :=
  callsIn_wide.1 (depth_in Fence.wide rfl rfl 6 (Nat.le_refl _) trivial trivial trivial trivial t c0 c1 c2 c3 w ht hdep)
end Go.Proofs.YtikofhldihimaaaGreatDoor
