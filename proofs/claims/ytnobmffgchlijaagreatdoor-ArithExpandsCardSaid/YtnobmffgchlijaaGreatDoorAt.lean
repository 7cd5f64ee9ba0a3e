/- Package arith: Eval. -/
import Derived.Test.YtnobmffgchlijaaGreatDoorAs
namespace Go.Proofs.YtnobmffgchlijaaGreatDoor
open Go.RowKit Go.Shelf
attribute [local go_sem] Oper.semAt_some

/-- What Eval gives. -/
def evalT (t : Tm) : Option Tm := if t.spanB then none else if t.validB && t.groundB then (match t.exp with
    | some (u :: _) => some u
    | _ => none) else none
def EvRes (t : Tm) (B : Nat) (w' : World) (d0 d1 d2 d3 : Value) (b : Bool) : Prop :=
  (evalT t = none ∧ b = false ∧ d0 = .int .u8 0 ∧ d1 = .int .i64 0 ∧ d2 = .string ⟨#[]⟩ ∧ d3 = .slice none 0 0) ∨ ∃ u, evalT t = some u ∧ b = true ∧ IsTmIn (fun b => B ≤ b ∧ b < w'.heap.size) w' d0 d1 d2 d3 u
def EvPost (t : Tm) (w : World) (e : Ending) (w' : World) : Prop := ∃ d0 d1 d2 d3 b, e = .returned (.tuple #[.agg #[d0, d1, d2, d3], .bool b]) ∧ Below w.heap.size w w' ∧ EvRes t w.heap.size w' d0 d1 d2 d3 b

set_option maxRecDepth 100000 in
set_option maxHeartbeats 40000000 in
theorem eval_any (t : Tm) (c0 c1 c2 c3 : Value) (w : World) (ht : IsTm w.heap.size w c0 c1 c2 c3 t) (hdep : t.depth < 4611686018427387900) : Calls Tryz.prog 20 #[.agg #[c0, c1, c2, c3]] w (EvPost t w) := by
  have ht0 := ht
  obtain ⟨k, n, s, us⟩ := t
  simp only [IsTm] at ht
  obtain ⟨rfl, hk, rfl, hn, rfl, hss, a, cap, rfl, hl, _⟩ := ht
  obtain ⟨t, hte⟩ : ∃ t, Tm.mk k n s us = t := ⟨_, rfl⟩
  rw [hte] at ht0 hdep ⊢
  clear hte
  obtain ⟨W0, hW0⟩ : ∃ W0, (w.alloc (.cells #[.int .u8 k, .int .i64 n, .string s, .slice a us.length cap] 32)).alloc (.cells #[.int .u8 0, .int .i64 0, .string ⟨#[]⟩, .slice none 0 0] 32) = W0 := ⟨_, rfl⟩
  have hb0 : Below w.heap.size w W0 := by rw [← hW0]; exact ((Below.refl _ w).alloc (Nat.le_refl _) _).alloc (by simp) _
  have hsz : W0.heap.size = w.heap.size + 2 := by rw [← hW0]; simp
  have hN : W0.heap[w.heap.size]? = some (.cells #[.int .u8 k, .int .i64 n, .string s, .slice a us.length cap] 32 (0, 0)) := by
    rw [← hW0]; exact (Below.heap_alloc _ _ _ (by simp)).trans (World.alloc_heap_new _ _)
  have hR : W0.heap[w.heap.size + 1]? = some (.cells #[.int .u8 0, .int .i64 0, .string ⟨#[]⟩, .slice none 0 0] 32 (0, 0)) := by
    rw [← hW0]; have := World.alloc_heap_new (w.alloc (.cells #[.int .u8 k, .int .i64 n, .string s, .slice a us.length cap] 32)) (.cells #[.int .u8 0, .int .i64 0, .string ⟨#[]⟩, .slice none 0 0] 32); rwa [World.size_alloc] at this
  have x0 := cells_at hN 0 _ rfl
  have x1 := cells_at hN 1 _ rfl
  have x2 := cells_at hN 2 _ rfl
  have x3 := cells_at hN 3 _ rfl
  have HI := Lib.hid (hasInterval_any t _ _ _ _ W0 ((ht0.below hb0).mono hb0.size))
  cases hv : t.spanB
  · rw [hv] at HI
    have HX := Lib.hid (show evalT t = if t.validB && t.groundB then (match t.exp with
      | some (u :: _) => some u
      | _ => none) else none by unfold evalT; rw [hv]; rfl)
    clear hv
    go_enter Tryz.func20, Tryz.ntmps20
    go_wp2_with (go_at_call 46; refine HI.out.mono ?_)
    clear HI
    rintro e W1 ⟨rfl, hb1⟩
    have z1 := hb1.size
    have hBW := hb0.trans (hb1.mono hb0.size)
    have hN1 := (hb1.block w.heap.size (by omega)).trans hN
    have HR1 := Lib.hid ((hb1.block (w.heap.size + 1) (by omega)).trans hR)
    have y0 := cells_at hN1 0 _ rfl
    have y1 := cells_at hN1 1 _ rfl
    have y2 := cells_at hN1 2 _ rfl
    have y3 := cells_at hN1 3 _ rfl
    have HE := Lib.hid (expandApi_any t _ _ _ _ W1 ((ht0.below hBW).mono hBW.size) hdep)
    have HB := Lib.hid hBW
    clear hb1 hb0 hBW hN1 hN hR
    go_wp2_with (go_at_call 16; refine HE.out.mono ?_)
    clear HE
    rintro e W2 ⟨v, er, rfl, hb2, hres⟩
    have hR2 := (hb2.block (w.heap.size + 1) (by omega)).trans HR1.out
    have r0 := cells_at hR2 0 _ rfl
    have r1 := cells_at hR2 1 _ rfl
    have r2 := cells_at hR2 2 _ rfl
    have r3 := cells_at hR2 3 _ rfl
    have p0 := frozen_of_row W2 (w.heap.size + 1) 0 _ _ hR2
    have p1 := frozen_of_row W2 (w.heap.size + 1) 1 _ _ hR2
    have p2 := frozen_of_row W2 (w.heap.size + 1) 2 _ _ hR2
    have p3 := frozen_of_row W2 (w.heap.size + 1) 3 _ _ hR2
    have HB2 := Lib.hid (HB.out.trans (hb2.mono HB.out.size))
    have z2 := hb2.size
    have zb := HB.out.size
    have hcase : (∃ a0 c0, v = .slice a0 0 c0 ∧ evalT t = none) ∨ ∃ u us', evalT t = some u ∧ Vals none W1.heap.size W2 v (u :: us') := by
      rcases hres with ⟨g1, g2, _⟩ | ⟨g1, g2, g3, _⟩ | ⟨g1, ts, g2, _, g3⟩
      · exact .inl ⟨_, _, g2, by rw [HX.out, g1]; rfl⟩
      · exact .inl ⟨_, _, g3, by rw [HX.out, g1, g2]; rfl⟩
      · cases ts with
        | nil =>
          have hnone : evalT t = none := by rw [HX.out, g1, g2]; rfl
          obtain ⟨_, ho, _⟩ := g3
          rcases ho.2 with ⟨e, _⟩ | ⟨g, cap, _, e, _⟩
          · exact .inl ⟨_, _, e, hnone⟩
          · exact .inl ⟨_, _, e, hnone⟩
        | cons u us' => exact .inr ⟨u, us', by rw [HX.out, g1, g2]; rfl, g3⟩
    clear hres HX hb2
    rcases hcase with ⟨a0, c0, rfl, hno⟩ | ⟨u, us', hsome, hV⟩
    · have HNO := Lib.hid hno
      clear hno
      go_wp2
      refine bodyPost_ret (v := .tuple #[.agg #[.int .u8 0, .int .i64 0, .string ⟨#[]⟩, .slice none 0 0], .bool false]) (by simp [results, Tryz.f20, go_sem, r0, r1, r2, r3]) rfl ?_
      refine ⟨_, _, _, _, _, rfl, (((HB2.out.setCell (p := ⟨w.heap.size + 1, 0, none⟩) (by simp) _).setCell (p := ⟨w.heap.size + 1, 1, none⟩) (by simp) _).setCell (p := ⟨w.heap.size + 1, 2, none⟩) (by simp) _).setCell (p := ⟨w.heap.size + 1, 3, none⟩) (by simp) _, ?_⟩
      exact .inl ⟨HNO.out, rfl, rfl, rfl, rfl, rfl⟩
    · obtain ⟨xs, hO, hH, _⟩ := hV
      obtain ⟨g, vc, rfl⟩ : ∃ g vc, v = .slice (some ⟨g, 0, none⟩) (us'.length + 1) vc := by
        rcases hO.2 with ⟨_, h0⟩ | ⟨g, cap, _, e, _⟩
        · simp at h0
        · exact ⟨g, cap, e⟩
      obtain ⟨d0, d1, d2, d3, m0, m1, m2, m3, hin⟩ := hH.at 0 (by simp)
      have g0 := (hO.cellAt (0 * 4) (by simp)).trans m0
      have g1 := (hO.cellAt (0 * 4 + 1) (by simp; omega)).trans m1
      have g2 := (hO.cellAt (0 * 4 + 2) (by simp; omega)).trans m2
      have g3 := (hO.cellAt (0 * 4 + 3) (by simp; omega)).trans m3
      simp only [Nat.zero_mul, Nat.zero_add] at g0 g1 g2 g3
      simp only [List.getElem_cons_zero] at hin
      obtain ⟨k', n', s', as'⟩ := u
      have hin0 := hin
      simp only [IsTmIn] at hin
      obtain ⟨rfl, _, rfl, _, rfl, _, a', cap', rfl, _, _⟩ := hin
      have HIN := Lib.hid hin0
      have HS := Lib.hid hsome
      have e : (((us'.length + 1 : Nat) : Int) == 0) = false := by rw [beq_eq_false_iff_ne]; omega
      have k0 : 0 < us'.length + 1 := by omega
      clear hin0 hsome m0 m1 m2 m3 hO hH
      go_wp2
      refine bodyPost_ret (v := .tuple #[.agg #[.int .u8 k', .int .i64 n', .string s', .slice a' as'.length cap'], .bool true]) (by simp [results, Tryz.f20, go_sem, r0, r1, r2, r3]) rfl ?_
      refine ⟨_, _, _, _, _, rfl, (((HB2.out.setCell (p := ⟨w.heap.size + 1, 0, none⟩) (by simp) _).setCell (p := ⟨w.heap.size + 1, 1, none⟩) (by simp) _).setCell (p := ⟨w.heap.size + 1, 2, none⟩) (by simp) _).setCell (p := ⟨w.heap.size + 1, 3, none⟩) (by simp) _, ?_⟩
      refine .inr ⟨_, HS.out, rfl, HIN.out.keep fun b hf => ?_⟩
      have h1 := hf.1
      have h2 := hf.2.1
      refine ⟨⟨by omega, by simp [World.setCell]; omega⟩, ?_⟩
      exact (Below.heap_setCell _ _ _ b (by simp; omega)).trans ((Below.heap_setCell _ _ _ b (by simp; omega)).trans ((Below.heap_setCell _ _ _ b (by simp; omega)).trans (Below.heap_setCell _ _ _ b (by simp; omega))))
  · rw [hv] at HI
    have HX := Lib.hid (show evalT t = none by unfold evalT; rw [hv]; rfl)
    clear hv
    go_enter Tryz.func20, Tryz.ntmps20
    go_wp2_with (go_at_call 46; refine HI.out.mono ?_)
    clear HI
    rintro e W1 ⟨rfl, hb1⟩
    have hR1 := (hb1.block (w.heap.size + 1) (by omega)).trans hR
    have r0 := cells_at hR1 0 _ rfl
    have r1 := cells_at hR1 1 _ rfl
    have r2 := cells_at hR1 2 _ rfl
    have r3 := cells_at hR1 3 _ rfl
    have p0 := frozen_of_row W1 (w.heap.size + 1) 0 _ _ hR1
    have p1 := frozen_of_row W1 (w.heap.size + 1) 1 _ _ hR1
    have p2 := frozen_of_row W1 (w.heap.size + 1) 2 _ _ hR1
    have p3 := frozen_of_row W1 (w.heap.size + 1) 3 _ _ hR1
    have HB := Lib.hid (hb0.trans (hb1.mono hb0.size))
    clear hb1 hb0 hR1 hN hR
    go_wp2
    refine bodyPost_ret (v := .tuple #[.agg #[.int .u8 0, .int .i64 0, .string ⟨#[]⟩, .slice none 0 0], .bool false]) (by simp [results, Tryz.f20, go_sem, r0, r1, r2, r3]) rfl ?_
    refine ⟨_, _, _, _, _, rfl, (((HB.out.setCell (p := ⟨w.heap.size + 1, 0, none⟩) (by simp) _).setCell (p := ⟨w.heap.size + 1, 1, none⟩) (by simp) _).setCell (p := ⟨w.heap.size + 1, 2, none⟩) (by simp) _).setCell (p := ⟨w.heap.size + 1, 3, none⟩) (by simp) _, ?_⟩
    exact .inl ⟨HX.out, rfl, rfl, rfl, rfl, rfl⟩
end Go.Proofs.YtnobmffgchlijaaGreatDoor
