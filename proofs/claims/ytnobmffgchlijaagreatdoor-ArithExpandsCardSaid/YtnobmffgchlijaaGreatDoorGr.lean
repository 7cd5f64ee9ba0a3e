/- Package term: Ground. -/
import Derived.Test.YtnobmffgchlijaaGreatDoorDp
namespace Go.Proofs.YtnobmffgchlijaaGreatDoor
open Go.RowKit Go.Shelf
attribute [local go_sem] Oper.semAt_some

def Tm.isVar (t : Tm) : Bool := decide (t.kind = 3)
def Tm.groundB (t : Tm) : Bool := (t.nodes 1).all fun x => !x.1.isVar

theorem all_of_pre {n₀ : Nat} {wt : World} {ys : List (NdIn n₀ wt)} {l : List (Tm × Nat)} {p : Tm × Nat → Bool} (h : ys.map NdIn.key = l) (hp : ys.all (fun x => p x.key) = true) : l.all p = true := by
  rw [← h, List.all_map]; exact hp
theorem not_all_of_pre {n₀ : Nat} {wt : World} {ys : List (NdIn n₀ wt)} {l : List (Tm × Nat)} {p : Tm × Nat → Bool} (h : ys.map NdIn.key <+: l) (hp : ys.all (fun x => p x.key) = false) : l.all p = false := by
  obtain ⟨r, rfl⟩ := h
  rw [List.all_append, List.all_map]
  rw [show (p ∘ NdIn.key : NdIn n₀ wt → Bool) = fun x => p x.key from rfl, hp]; rfl

set_option maxRecDepth 100000 in
set_option maxHeartbeats 2000000 in
theorem ground_in (F : Fence) (hd : F.depth = none) (hro : F.round = none) (n : Nat) (hn : 6 ≤ n) (h0 : F.fn 15) (h1 : F.fn 37) (h2 : F.fn 64) (h3 : F.fn 65)
    (t : Tm) (c0 c1 c2 c3 : Value) (w : World) (ht : IsTm w.heap.size w c0 c1 c2 c3 t) (hdep : t.depth < 4611686018427387900) :
    CallsIn F n Tryz.prog 15 #[.agg #[c0, c1, c2, c3]] w fun e w' => e = .returned (.bool t.groundB) ∧ Below w.heap.size w w' := by
  have h1n : 1 ≤ n := by omega
  have hdd : ∀ k : Nat, (F.depth.isSome = true → 1 ≤ k) := fun k h => by rw [hd] at h; cases h
  have hg : t.groundB = (t.nodes 1).all fun x => !x.1.isVar := rfl
  have HG := Lib.hid hg; clear hg
  refine callsIn_of_wp_marks Tryz.func15 rfl h0 ?_ hro
  simp only [Tryz.ntmps15, List.size_toArray, List.length_cons, List.length_nil, Nat.reduceAdd, Nat.reduceSub, Array.replicate_succ, Array.replicate_zero, List.push_toArray, List.append_toArray, List.nil_append, List.cons_append]
  gi_wp2_with (gi_at_call 37; refine (subterms_in F (n - 1) h1 hro _ _ _ _ _).mono ?_; rintro e w' ⟨rfl, rfl⟩)
  obtain ⟨W0, hW0⟩ : ∃ W0, ((w.alloc (.cells #[c0, c1, c2, c3] 32)).alloc (.cells #[.bool false] 4)).alloc (.cells #[c0, c1, c2, c3] 32) = W0 := ⟨_, rfl⟩
  have hsz : W0.heap.size = w.heap.size + 3 := by rw [← hW0]; simp
  have hb0 : Below w.heap.size w W0 := by rw [← hW0]; exact (((Below.refl _ w).alloc (Nat.le_refl _) _).alloc (by simp) _).alloc (by simp; omega) _
  have hbd : Boxed W0 (w.heap.size + 1) 4 (.bool false) := by
    rw [← hW0]; have := Boxed.new (w.alloc (.cells #[c0, c1, c2, c3] 32)) 4 (.bool false); rw [World.size_alloc] at this; exact this.alloc _
  have hbt : W0.heap[w.heap.size + 1 + 1]? = some (.cells #[c0, c1, c2, c3] 32 (0, 0)) := by
    rw [← hW0]; have := World.alloc_heap_new ((w.alloc (.cells #[c0, c1, c2, c3] 32)).alloc (.cells #[.bool false] 4)) (.cells #[c0, c1, c2, c3] 32)
    rw [World.size_alloc, World.size_alloc] at this; exact this
  rw [hW0]
  clear hW0
  refine wpIn_rangeFunc_ownH hro h1n (gf := 64) (lb := #[.pointer (some ⟨w.heap.size + 1 + 1, 0, none⟩)]) rfl h2 (enters_of Tryz.func64 (by kernel_rfl) rfl)
    (subterms_stops F hd (n - 1) h2 h3 hro (w.heap.size + 1 + 1) w.heap.size w W0 t c0 c1 c2 c3 (by omega) hb0 ht hdep hbt) Kept.trans
    (fun W l o o' hl h hc _ => Kept.putObj o' (by omega) (by have := (Array.getElem?_eq_some_iff.1 h).1; omega) h hc) (Below.refl _ _) (fun _ => rfl)
    (fun pre W => Boxed W (w.heap.size + 1) 4 (.bool false) ∧ (Below w.heap.size w W ∧ W0.heap.size ≤ W.heap.size) ∧ pre.all (fun x => !x.1.t.isVar) = true)
    (fun c pre W => Boxed W (w.heap.size + 1) 4 (.bool false) ∧ (Below w.heap.size w W ∧ W0.heap.size ≤ W.heap.size) ∧ (c = .ret ∧ pre.all (fun x => !x.1.t.isVar) = false))
    (OwnFrom.and (Own.from (boxed_own _ _ fun _ => .bool false) _) (OwnFrom.and (OwnFrom.and (ownFrom_below (Nat.le_refl _) (by omega)) (fun _ _ _ _ hs hg _ => Nat.le_trans hs hg.size)) (ownFrom_pure _ _)))
    (fun c => OwnFrom.and (Own.from (boxed_own _ _ fun _ => .bool false) _) (OwnFrom.and (OwnFrom.and (ownFrom_below (Nat.le_refl _) (by omega)) (fun _ _ _ _ hs hg _ => Nat.le_trans hs hg.size)) (ownFrom_pure _ (fun (pre : List (NdIn w.heap.size w)) => c = .ret ∧ pre.all (fun x => !x.1.t.isVar) = false))))
    ⟨hbd, ⟨hb0, Nat.le_refl _⟩, rfl⟩
    (fun x a' W => ∃ Bx, W0.heap.size ≤ Bx ∧ W.heap[Bx]? = some (.cells #[x.1.c0, x.1.c1, x.1.c2, x.1.c3, .int .i64 x.1.l] 68 (0, 0)) ∧
      a' = { tmps := #[Value.agg #[c0, c1, c2, c3], Value.pointer (some { block := w.heap.size, off := 0 }), Value.pointer (some { block := w.heap.size + 1, off := 0 }),
          Value.pointer (some { block := Bx, off := 0 }), Value.agg #[c0, c1, c2, c3],
          Value.func (Fn.func 64) #[] #[Value.pointer (some { block := w.heap.size + 1 + 1, off := 0 })], x.val, undef,
          undef, undef, undef], defers := [] })
    (fun x a' s X Y row hs hg hr => by
      obtain ⟨Bx, h1, h2, h3⟩ := hs
      exact ⟨Bx, h1, cells_own Bx 68 (fun _ : Unit => #[x.1.c0, x.1.c1, x.1.c2, x.1.c3, .int .i64 x.1.l]) () X Y row h2 hg (fun r e => (hr r e).2), h3⟩) ?assign ?body ?done ?stop
  case assign =>
    rintro l pre ⟨⟨d0, d1, d2, d3, ⟨k', n', s', as'⟩, lv⟩, hx, hlv⟩ W K ⟨hi1, ⟨hi2, hiz⟩, hi3⟩ hK
    have hx0 := hx
    simp only [IsTm] at hx
    obtain ⟨rfl, _, rfl, _, rfl, _, a', cap', rfl, _, _⟩ := hx
    have hK' := hK _ _ ((KeepsOthers.alloc _ _).from _) ((Kept.refl _ _ W).alloc (by omega) (.cells #[.int .u8 k', .int .i64 n', .string s', .slice a' as'.length cap', .int .i64 lv] 68)) ⟨hi1.alloc _, ⟨hi2.alloc (by omega) _, by simp; omega⟩, hi3⟩ ⟨W.heap.size, hiz, World.alloc_heap_new _ _, rfl⟩
    clear hK
    have HK := Lib.hid hK'; clear hK' hi3
    simp only [NdIn.val]
    gi_wp2
    exact HK.out
  case body =>
    rintro l pre ⟨⟨d0, d1, d2, d3, ⟨k', n', s', as'⟩, lv⟩, hx, hlv⟩ a' W hl hrec ⟨hi1, ⟨hi2, hiz⟩, hi3⟩ ⟨Bx, hBx, hbx, rfl⟩ hlt
    have hx0 := hx
    simp only [IsTm] at hx
    obtain ⟨rfl, _, rfl, _, rfl, _, a', cap', rfl, _, _⟩ := hx
    simp only at hbx hlv
    have q0 := cells_at hbx 0 _ rfl
    have qd := hi1.cell
    have qf := hi1.frozen
    have HI := Lib.hid hi3; clear hi3
    by_cases hk : k' = 3
    · have hv : (pre ++ [(⟨⟨.int .u8 k', .int .i64 n', .string s', .slice a' as'.length cap', .mk k' n' s' as', lv⟩, hx0, hlv⟩ : NdIn w.heap.size w)]).all (fun x => !x.1.t.isVar) = false := by
        simp [Tm.isVar, Tm.kind, hk]
      have HV := Lib.hid hv; clear hv
      have hk' : (k' == 3) = true := by simpa using hk
      have HKK := Lib.hid hk; clear hk
      gi_wp2
      exact ⟨(KeepsOthers.setCell _ _ _).from _, hi1.set _, ⟨hi2.setCell (p := ⟨w.heap.size + 1, 0, none⟩) (by simp) _, by simp; omega⟩, rfl, HV.out⟩
    · have hv : (pre ++ [(⟨⟨.int .u8 k', .int .i64 n', .string s', .slice a' as'.length cap', .mk k' n' s' as', lv⟩, hx0, hlv⟩ : NdIn w.heap.size w)]).all (fun x => !x.1.t.isVar) = true := by
        rw [List.all_append, HI.out]; simp [Tm.isVar, Tm.kind, hk]
      have HV := Lib.hid hv; clear hv
      have hk' : (k' == 3) = false := by simpa using hk
      clear hk
      gi_wp2
      exact ⟨(KeepsOthers.refl _).from _, Kept.refl _ _ _, hi1, ⟨hi2, by omega⟩, HV.out⟩
  case done =>
    rintro D ys W hD hys ⟨hbx, ⟨hB, hz⟩, hall⟩ hK
    have hc := hbx.cell
    have hf := hbx.frozen
    have HE := Lib.hid (all_of_pre (p := fun x => !x.1.isVar) hys hall); clear hys hall
    have hK' := (KeepsOthers.setCell W ⟨w.heap.size + 1, 0, none⟩ (.bool true)).same D _ hK rfl
    have hc5 := cell_kept (World.cell?_setCell_same' W ⟨w.heap.size + 1, 0, none⟩ (.bool true) (by rw [hc]; rfl)) (grownBy_putObj' _ D (.deferred none)) (fun r e => by cases e; exact ⟨_, hK', rfl⟩)
    have HC := Lib.hid hc5; clear hc5
    gi_wp2
    refine ⟨by simp, .inl ⟨_, _, rfl, run_takeDeferred hK', ?_⟩⟩
    have hc5 := HC.out
    refine ⟨.bool true, ?_, by rw [HG.out, HE.out], ?_⟩
    · simp [results, Tryz.f15, go_sem, hc5]
    · exact (hB.setCell (p := ⟨w.heap.size + 1, 0, none⟩) (by simp) _).trans (belowK_b (w := w) (Nat.le_refl _) _ D _ _ (by omega) hK' rfl rfl)
  case stop =>
    rintro D c pre W hD hys ⟨hbx, ⟨hB, hz⟩, rfl, hall⟩ hK
    have hc := hbx.cell
    have hf := hbx.frozen
    have HE := Lib.hid (not_all_of_pre (p := fun x => !x.1.isVar) hys hall); clear hys hall
    have hc5 := cell_kept hc (grownBy_putObj' _ D (.deferred none)) (fun r e => by cases e; exact ⟨_, hK, rfl⟩)
    have HC := Lib.hid hc5; clear hc5
    gi_wp2
    refine ⟨by simp, .inl ⟨_, _, rfl, run_takeDeferred hK, ?_⟩⟩
    have hc5 := HC.out
    refine ⟨.bool false, ?_, by rw [HG.out, HE.out], ?_⟩
    · simp [results, Tryz.f15, go_sem, hc5]
    · exact hB.trans (belowK_b (w := w) (Nat.le_refl _) _ D _ _ (by omega) hK rfl rfl)

theorem ground_any (t : Tm) (c0 c1 c2 c3 : Value) (w : World) (ht : IsTm w.heap.size w c0 c1 c2 c3 t) (hdep : t.depth < 4611686018427387900) :
    Calls Tryz.prog 15 #[.agg #[c0, c1, c2, c3]] w fun e w' => e = .returned (.bool t.groundB) ∧ Below w.heap.size w w' :=
  callsIn_wide.1 (ground_in Fence.wide rfl rfl 6 (Nat.le_refl _) trivial trivial trivial trivial t c0 c1 c2 c3 w ht hdep)
end Go.Proofs.YtnobmffgchlijaaGreatDoor
