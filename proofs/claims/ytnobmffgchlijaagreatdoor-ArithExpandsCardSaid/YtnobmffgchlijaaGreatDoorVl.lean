/- Package term: Value. -/
import Derived.Test.YtnobmffgchlijaaGreatDoorVa
namespace Go.Proofs.YtnobmffgchlijaaGreatDoor
open Go.RowKit Go.Shelf
attribute [local go_sem] Oper.semAt_some

def plainB (x : Tm × Nat) : Bool := decide (x.1.kind = 1) || decide (x.1.kind = 2) || decide (x.1.kind = 4)
def preB {n₀ : Nat} {wt : World} (p : Tm × Nat → Bool) (pre : List (NdIn n₀ wt)) : Bool := pre.all fun x => p x.key
def Tm.valueB (t : Tm) : Bool := t.validB && (t.nodes 1).all plainB

set_option maxRecDepth 100000 in
set_option maxHeartbeats 2000000 in
theorem value_in (t : Tm) (c0 c1 c2 c3 : Value) (w : World) (ht : IsTm w.heap.size w c0 c1 c2 c3 t) (hdep : t.depth < 4611686018427387900) :
    CallsIn Fence.wide 8 Tryz.prog 18 #[.agg #[c0, c1, c2, c3]] w fun e w' => e = .returned (.bool t.valueB) ∧ Below w.heap.size w w' := by
  have hd : Fence.wide.depth = none := rfl
  have hro : Fence.wide.round = none := rfl
  have hg : t.valueB = (t.validB && (t.nodes 1).all plainB) := rfl
  have HG := Lib.hid hg; clear hg
  have ht2 : IsTm (w.heap.size + 1 + 1) ((w.alloc (.cells #[c0, c1, c2, c3] 32)).alloc (.cells #[.bool false] 4)) c0 c1 c2 c3 t :=
    (ht.below (((Below.refl _ w).alloc (Nat.le_refl _) _).alloc (by simp) _)).mono (by omega)
  have HT2 := Lib.hid ht2; clear ht2
  refine callsIn_of_wp_marks Tryz.func18 rfl trivial ?_ hro
  simp only [Tryz.ntmps18, List.size_toArray, List.length_cons, List.length_nil, Nat.reduceAdd, Nat.reduceSub, Array.replicate_succ, Array.replicate_zero, List.push_toArray, List.append_toArray, List.nil_append, List.cons_append]
  gi_wp2_with (refine ⟨trivial, ?_⟩; gi_at_call 14; refine (callsIn_wide.2 (valid_any t _ _ _ _ _ (by simpa using HT2.out) hdep)).mono ?_)
  rintro e w1 ⟨rfl, hB1⟩
  simp only [World.size_alloc] at hB1
  have hz1 := hB1.size
  simp only [World.size_alloc] at hz1
  have hBw : Below w.heap.size w w1 := (((Below.refl _ w).alloc (Nat.le_refl _) _).alloc (by simp) _).trans (hB1.mono (by omega))
  have hb1 : w1.heap[w.heap.size]? = some (.cells #[c0, c1, c2, c3] 32 (0, 0)) :=
    (hB1.block _ (by omega)).trans ((Below.heap_alloc _ _ _ (by simp)).trans (World.alloc_heap_new w _))
  have hbr : Boxed w1 (w.heap.size + 1) 4 (.bool false) := by
    refine (hB1.block _ (by omega)).trans ?_
    have := Boxed.new (w.alloc (.cells #[c0, c1, c2, c3] 32)) 4 (.bool false)
    rw [World.size_alloc] at this; exact this
  have hlt0 : w.heap.size < w1.heap.size := by omega
  have hlt1 : w.heap.size + 1 < w1.heap.size := by omega
  cases hvd : t.validB
  · have HVD := Lib.hid hvd
    have qd := hbr.cell
    have qf := hbr.frozen
    have hc5 := World.cell?_setCell_same' w1 ⟨w.heap.size + 1, 0, none⟩ (.bool false) (by rw [qd]; rfl)
    have HC := Lib.hid hc5; clear hc5
    gi_wp2
    have hc5 := HC.out
    refine ⟨.bool false, ?_, by rw [HG.out, HVD.out]; rfl, ?_⟩
    · simp [results, Tryz.f18, go_sem, hc5]
    · exact hBw.setCell (p := ⟨w.heap.size + 1, 0, none⟩) (by simp) _
  have HVD := Lib.hid hvd
  have g0 := cells_at hb1 0 c0 rfl
  have g1 := cells_at hb1 1 c1 rfl
  have g2 := cells_at hb1 2 c2 rfl
  have g3 := cells_at hb1 3 c3 rfl
  gi_wp2_with (refine ⟨trivial, ?_⟩; gi_at_call 37; refine (subterms_in Fence.wide 7 trivial hro _ _ _ _ _).mono ?_; rintro e w' ⟨rfl, rfl⟩)
  obtain ⟨W0, hW0⟩ : ∃ W0, w1.alloc (.cells #[c0, c1, c2, c3] 32) = W0 := ⟨_, rfl⟩
  have hsz : W0.heap.size = w1.heap.size + 1 := by rw [← hW0]; simp
  have hb0 : Below w.heap.size w W0 := by rw [← hW0]; exact hBw.alloc (by omega) _
  have hbd : Boxed W0 (w.heap.size + 1) 4 (.bool false) := by rw [← hW0]; exact hbr.alloc _
  have hbt : W0.heap[w1.heap.size]? = some (.cells #[c0, c1, c2, c3] 32 (0, 0)) := by rw [← hW0]; exact World.alloc_heap_new w1 _
  rw [hW0]
  clear hW0 hb1 hbr g0 g1 g2 g3
  refine wpIn_rangeFunc_ownH hro (by omega) (gf := 64) (lb := #[.pointer (some ⟨w1.heap.size, 0, none⟩)]) rfl trivial (enters_of Tryz.func64 (by kernel_rfl) rfl)
    (subterms_stops Fence.wide hd 7 trivial trivial hro w1.heap.size w.heap.size w W0 t c0 c1 c2 c3 (by omega) hb0 ht hdep hbt) Kept.trans
    (fun W l o o' hl h hc _ => Kept.putObj o' (by omega) (by have := (Array.getElem?_eq_some_iff.1 h).1; omega) h hc) (Below.refl _ _) (fun _ => rfl)
    (fun pre W => Boxed W (w.heap.size + 1) 4 (.bool false) ∧ (Below w.heap.size w W ∧ W0.heap.size ≤ W.heap.size) ∧ preB plainB pre = true)
    (fun c pre W => Boxed W (w.heap.size + 1) 4 (.bool false) ∧ (Below w.heap.size w W ∧ W0.heap.size ≤ W.heap.size) ∧ (c = .ret ∧ preB plainB pre = false))
    (OwnFrom.and (Own.from (boxed_own _ _ fun _ => .bool false) _) (OwnFrom.and (OwnFrom.and (ownFrom_below (Nat.le_refl _) (by omega)) (fun _ _ _ _ hs hg _ => Nat.le_trans hs hg.size)) (ownFrom_pure _ _)))
    (fun c => OwnFrom.and (Own.from (boxed_own _ _ fun _ => .bool false) _) (OwnFrom.and (OwnFrom.and (ownFrom_below (Nat.le_refl _) (by omega)) (fun _ _ _ _ hs hg _ => Nat.le_trans hs hg.size)) (ownFrom_pure _ (fun (pre : List (NdIn w.heap.size w)) => c = .ret ∧ preB plainB pre = false))))
    ⟨hbd, ⟨hb0, Nat.le_refl _⟩, rfl⟩
    (fun x a' W => ∃ Bx, W0.heap.size ≤ Bx ∧ W.heap[Bx]? = some (.cells #[x.1.c0, x.1.c1, x.1.c2, x.1.c3, .int .i64 x.1.l] 68 (0, 0)) ∧
      a' = { tmps := #[Value.agg #[c0, c1, c2, c3], Value.pointer (some { block := w.heap.size, off := 0 }), Value.pointer (some { block := w.heap.size + 1, off := 0 }),
          Value.pointer (some { block := Bx, off := 0 }), Value.agg #[c0, c1, c2, c3], .bool true, .bool false, Value.agg #[c0, c1, c2, c3],
          Value.func (Fn.func 64) #[] #[Value.pointer (some { block := w1.heap.size, off := 0 })], x.val, undef, undef, undef, undef, undef, undef, undef, undef, undef, undef, undef, undef, undef, undef, undef, undef], defers := [] })
    (fun x a' s X Y row hs hg hr => by
      obtain ⟨Bx, h1, h2, h3⟩ := hs
      exact ⟨Bx, h1, cells_own Bx 68 (fun _ : Unit => #[x.1.c0, x.1.c1, x.1.c2, x.1.c3, .int .i64 x.1.l]) () X Y row h2 hg (fun r e => (hr r e).2), h3⟩) ?assign ?body ?done ?stop
  case assign =>
    rintro l pre ⟨⟨d0, d1, d2, d3, ⟨k', n', s', as'⟩, lv⟩, hx, hlv⟩ W K ⟨hi1, ⟨hi2, hiz⟩, hi3⟩ hK
    have hx0 := hx
    simp only [IsTm] at hx
    obtain ⟨rfl, _, rfl, _, rfl, _, a', cap', rfl, _, _⟩ := hx
    have hK' := hK _ _ ((KeepsOthers.alloc _ _).from _) ((Kept.refl _ _ W).alloc (by omega) (.cells #[.int .u8 k', .int .i64 n', .string s', .slice a' as'.length cap', .int .i64 lv] 68)) ⟨hi1.alloc _, ⟨hi2.alloc (by omega) _, by simp; omega⟩, hi3⟩ ⟨W.heap.size, hiz, World.alloc_heap_new _ _, rfl⟩
    clear hK
    have HK := Lib.hid hK'; clear hK' hi3
    simp only [NdIn.val]
    gi_wp2
    exact HK.out
  case body =>
    rintro l pre ⟨⟨d0, d1, d2, d3, ⟨k', n', s', as'⟩, lv⟩, hx, hlv⟩ a' W hl hrec ⟨hi1, ⟨hi2, hiz⟩, hi3⟩ ⟨Bx, hBx, hbx, rfl⟩ hlt
    have hx0 := hx
    simp only [IsTm] at hx
    obtain ⟨rfl, _, rfl, _, rfl, _, a', cap', rfl, _, _⟩ := hx
    simp only at hbx hlv
    have q0 := cells_at hbx 0 _ rfl
    have qd := hi1.cell
    have qf := hi1.frozen
    have HI := Lib.hid hi3; clear hi3
    have hv : ∀ b, plainB (.mk k' n' s' as', lv) = b → preB plainB (pre ++ [(⟨⟨.int .u8 k', .int .i64 n', .string s', .slice a' as'.length cap', .mk k' n' s' as', lv⟩, hx0, hlv⟩ : NdIn w.heap.size w)]) = b := by
      intro b hb
      have hI := HI.out
      unfold preB at hI ⊢
      rw [List.all_append, hI]; simp only [List.all_cons, List.all_nil, NdIn.key, hb, Bool.true_and, Bool.and_true]
    have HV := Lib.hid hv; clear hv
    have hp : plainB (.mk k' n' s' as', lv) = (decide (k' = 1) || decide (k' = 2) || decide (k' = 4)) := rfl
    have HP := Lib.hid hp; clear hp
    have hcs : k' = 1 ∨ k' = 2 ∨ k' = 4 ∨ (k' ≠ 1 ∧ k' ≠ 2 ∧ k' ≠ 4) := by omega
    rcases hcs with rfl | rfl | rfl | ⟨hk1, hk2, hk4⟩
    · have HQ := Lib.hid (HV.out true (by rw [HP.out]; rfl))
      gi_wp2
      exact ⟨(KeepsOthers.refl _).from _, Kept.refl _ _ _, hi1, ⟨hi2, by omega⟩, HQ.out⟩
    · have HQ := Lib.hid (HV.out true (by rw [HP.out]; rfl))
      gi_wp2
      exact ⟨(KeepsOthers.refl _).from _, Kept.refl _ _ _, hi1, ⟨hi2, by omega⟩, HQ.out⟩
    · have HQ := Lib.hid (HV.out true (by rw [HP.out]; rfl))
      gi_wp2
      exact ⟨(KeepsOthers.refl _).from _, Kept.refl _ _ _, hi1, ⟨hi2, by omega⟩, HQ.out⟩
    · have HQ := Lib.hid (HV.out false (by rw [HP.out]; simp [hk1, hk2, hk4]))
      have e1 : (k' != 1) = true := by simpa using hk1
      have e2 : (k' != 2) = true := by simpa using hk2
      have e4 : (k' != 4) = true := by simpa using hk4
      clear hk1 hk2 hk4
      gi_wp2
      exact ⟨(KeepsOthers.setCell _ _ _).from _, hi1.set _, ⟨hi2.setCell (p := ⟨w.heap.size + 1, 0, none⟩) (by simp) _, by simp; omega⟩, rfl, HQ.out⟩
  case done =>
    rintro D ys W hD hys ⟨hbx, ⟨hB, hz⟩, hall⟩ hK
    have hc := hbx.cell
    have hf := hbx.frozen
    have HE := Lib.hid (all_of_pre (p := plainB) hys hall); clear hys hall
    have hK' := (KeepsOthers.setCell W ⟨w.heap.size + 1, 0, none⟩ (.bool true)).same D _ hK rfl
    have hc5 := cell_kept (World.cell?_setCell_same' W ⟨w.heap.size + 1, 0, none⟩ (.bool true) (by rw [hc]; rfl)) (grownBy_putObj' _ D (.deferred none)) (fun r e => by cases e; exact ⟨_, hK', rfl⟩)
    have HC := Lib.hid hc5; clear hc5
    gi_wp2
    refine ⟨by simp, .inl ⟨_, _, rfl, run_takeDeferred hK', ?_⟩⟩
    have hc5 := HC.out
    refine ⟨.bool true, ?_, by rw [HG.out, HE.out, HVD.out]; rfl, ?_⟩
    · simp [results, Tryz.f18, go_sem, hc5]
    · exact (hB.setCell (p := ⟨w.heap.size + 1, 0, none⟩) (by simp) _).trans (belowK_b (w := w) (Nat.le_refl _) _ D _ _ (by omega) hK' rfl rfl)
  case stop =>
    rintro D c pre W hD hys ⟨hbx, ⟨hB, hz⟩, rfl, hall⟩ hK
    have hc := hbx.cell
    have hf := hbx.frozen
    have HE := Lib.hid (not_all_of_pre (p := plainB) hys hall); clear hys hall
    have hc5 := cell_kept hc (grownBy_putObj' _ D (.deferred none)) (fun r e => by cases e; exact ⟨_, hK, rfl⟩)
    have HC := Lib.hid hc5; clear hc5
    gi_wp2
    refine ⟨by simp, .inl ⟨_, _, rfl, run_takeDeferred hK, ?_⟩⟩
    have hc5 := HC.out
    refine ⟨.bool false, ?_, by rw [HG.out, HE.out, HVD.out]; rfl, ?_⟩
    · simp [results, Tryz.f18, go_sem, hc5]
    · exact hB.trans (belowK_b (w := w) (Nat.le_refl _) _ D _ _ (by omega) hK rfl rfl)

theorem value_any (t : Tm) (c0 c1 c2 c3 : Value) (w : World) (ht : IsTm w.heap.size w c0 c1 c2 c3 t) (hdep : t.depth < 4611686018427387900) :
    Calls Tryz.prog 18 #[.agg #[c0, c1, c2, c3]] w fun e w' => e = .returned (.bool t.valueB) ∧ Below w.heap.size w w' :=
  callsIn_wide.1 (value_in t c0 c1 c2 c3 w ht hdep)
end Go.Proofs.YtnobmffgchlijaaGreatDoor
