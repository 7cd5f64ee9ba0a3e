/- Where there is no store: nil maps. -/
import Derived.Test.YtcoieohbmkjpoaaGreatDoorB1S1
namespace Go.Proofs.YtcoieohbmkjpoaaGreatDoor
open Go.RowKit Go.Shelf Go.Maps
attribute [local go_sem] Oper.semAt_some

section
variable {F : Fence} {n : Nat} {P : Program} (w : World) {ops : Array Oper} {rest : List Oper} {o : Oper} {a : Act} {Q : Exit → Act → World → Prop}
theorem wpListIn_range_nil (hg : o.guard = none) (m : Operand) (t : TypeId) (hop : o.op = Op.range t m) (hm : a.eval m = .map none)
    (hrun : (Instr.range t (.map none)).run P w = .ok (.pointer (some ⟨w.heap.size, 0, none⟩)) (w.alloc (.mapIter none 0 #[] 0)))
    (hK : wpListIn F n P ops Q rest (a.put o.dst (.pointer (some ⟨w.heap.size, 0, none⟩))) (w.alloc (.mapIter none 0 #[] 0))) :
    wpListIn F n P ops Q (o :: rest) a w := by
  refine wpListIn_plain hg fun K' hK' => ?_
  unfold Oper.wpIn
  refine ⟨?_, ?_⟩
  · simp [Oper.about, hop]
  · rw [Oper.semAt_plain F _ _ (by rw [hop]; intro c hc'; cases hc')]
    simp [execOp, hop, hm, hrun, Result.andThen]
    exact hK' _ _ hK
theorem wpListIn_next_nil (hg : o.guard = none) (it : Operand) (hop : o.op = Op.next it false) (r : Nat) (hit : a.eval it = .pointer (some ⟨r, 0, none⟩))
    (hrun : (Instr.next (.pointer (some ⟨r, 0, none⟩)) false o.type).run P w = .ok (.tuple #[.bool false]) w)
    (hDone : wpListIn F n P ops Q rest (a.put o.dst (.tuple #[.bool false])) w) : wpListIn F n P ops Q (o :: rest) a w := by
  refine wpListIn_plain hg fun K' hK' => ?_
  unfold Oper.wpIn
  refine ⟨by simp [Oper.about, hop], ?_⟩
  rw [Oper.semAt_plain F _ _ (by rw [hop]; intro c hc'; cases hc')]
  simp [execOp, hop, hit, hrun, Result.andThen]
  exact hK' _ _ hDone
end
theorem next_nil {P : Program} {w : World} {r : Nat} (t : TypeId) (h : w.heap[r]? = some (.mapIter none 0 #[] 0)) : (Instr.next (.pointer (some ⟨r, 0, none⟩)) false t).run P w = .ok (.tuple #[.bool false]) w := by
  have hg : (getObj r).run P w = .ok (.mapIter none 0 #[] 0) w := by simp [getObj, Sem.run, h]
  simp [Instr.next, hg, Result.andThen]
set_option maxRecDepth 100000 in
set_option maxHeartbeats 4000000 in
theorem keysN_seq {n₀ : Nat} {Tu : TypeId → Bool} {Mu : Nat → Bool} (hT1 : Tu 54 = false) (w : World)
    (B1 : Nat) (hB1 : w.heap[B1]? = some (.cells #[.map none] 54 (0, 0))) :
    IterU sgV n₀ Tu Mu w (.func (.func 96) #[] #[.pointer (some ⟨B1, 0, none⟩)]) [] 0 := by
  refine ⟨_, _, rfl, fun _ _ => rfl, fun n => ?_⟩
  intro k0 J Jx W hlW hW hJ hJx hY h0
  have hBW1 := hW.block B1 _ hB1 (by simp [prot, hT1])
  have g1 := cells_at hBW1 0 _ rfl
  have hrun : ∀ u : World, (Instr.range 54 (.map none)).run Tryz.prog u = .ok (.pointer (some ⟨u.heap.size, 0, none⟩)) (u.alloc (.mapIter none 0 #[] 0)) := fun u => by kernel_rfl
  have HJ := Lib.hid hJ
  have H0 := Lib.hid h0
  have HRUN := Lib.hid hrun
  clear hB1 hW hBW1 hY hJ hJx h0 hlW hrun
  have hdd : ∀ k : Nat, (Fence.wide.depth.isSome = true → 1 ≤ k) := fun k h => by cases h
  have hro : Fence.wide.round = none := rfl
  refine callsIn_of_wp Tryz.func96 rfl trivial ?_ hro
  simp only [Tryz.ntmps96, List.size_toArray, List.length_cons, List.length_nil, Nat.reduceAdd, Nat.reduceSub, Array.replicate_succ, Array.replicate_zero, List.push_toArray, List.append_toArray, List.nil_append, List.cons_append]
  gi_wp2_with (first
    | (gi_at_range; refine wpListIn_range_nil _ rfl _ 54 rfl rfl (HRUN.out _) ?_)
    | gi_in)
  try go_frame
  obtain ⟨W1, hW1⟩ : ∃ X, W.alloc (.mapIter none 0 #[] 0) = X := ⟨_, rfl⟩
  have hr1 : W1.heap[W.heap.size]? = some (.mapIter none 0 #[] 0) := by rw [← hW1]; exact World.alloc_heap_new _ _
  have hj1 : J [] W1 := by rw [← hW1]; exact HJ.out _ _ _ H0.out (StepT.alloc _ _ _ _)
  have HR1 := Lib.hid hr1
  have HJ1 := Lib.hid hj1
  try rw [hW1]
  clear hr1 hj1 hW1
  gi_loopw [6] (fun _ wr => wr = W1) (fun _ _ => 0)
  case atStart => exact rfl
  case round =>
    obtain rfl := hrel
    gi_wp2_with (first
      | (gi_at_next; refine wpListIn_next_nil _ rfl _ rfl W.heap.size rfl (next_nil _ HR1.out) ?_)
      | gi_in)
    go_end0
    exact ⟨⟨_, rfl⟩, Or.inl ⟨[], ⟨fun y => Iff.rfl, List.nodup_nil, Nat.le_refl _⟩, HJ1.out⟩⟩
set_option maxRecDepth 100000 in
set_option maxHeartbeats 4000000 in
theorem appendSeqN_any (Bk : Nat) (w : World) (hB1 : w.heap[Bk]? = some (.cells #[.map none] 54 (0, 0))) :
    Calls Tryz.prog 95 #[.slice none 0 0, .func (.func 96) #[] #[.pointer (some ⟨Bk, 0, none⟩)]] w fun e w' => ∃ (v : Value) (xs : List Sig), e = .returned v ∧ Coll [] w w' v xs := by
  obtain ⟨i0, hi, hz0, hz1, hz2⟩ := info_parts info_Sel
  have hkl := (Array.getElem?_eq_some_iff.1 hB1).1
  refine (callsIn_wide (n := 0)).1 ?_
  refine callsIn_of_wp_marks Tryz.func95 rfl trivial ?_ rfl
  simp only [Tryz.ntmps95, List.size_toArray, List.length_cons, List.length_nil, Nat.reduceAdd, Nat.reduceSub, Array.replicate_succ, Array.replicate_zero, List.push_toArray, List.append_toArray, List.nil_append, List.cons_append]
  have hdd : ∀ k : Nat, (Fence.wide.depth.isSome = true → 1 ≤ k) := fun k h => by cases h
  have hro : Fence.wide.round = none := rfl
  gi_wp2
  obtain ⟨w1, hw1⟩ : ∃ w1, w.alloc (.cells #[.slice none 0 0] 61) = w1 := ⟨_, rfl⟩
  have hb1 : Below w.heap.size w w1 := by rw [← hw1]; exact (Below.refl _ _).alloc (Nat.le_refl _) _
  have hs1 : w1.heap.size = w.heap.size + 1 := by rw [← hw1]; simp
  have hx1 : w1.heap[w.heap.size]? = some (.cells #[.slice none 0 0] 61 (0, 0)) := by rw [← hw1]; exact World.alloc_heap_new _ _
  rw [hw1]
  clear hw1
  obtain ⟨f, lb, hfe, hent, hseq⟩ := keysN_seq (n₀ := w.heap.size) (Tu := tuS) (Mu := fun _ => false) rfl w1 Bk ((hb1.block _ hkl).trans hB1)
  simp only [Value.func.injEq, Fn.func.injEq, true_and] at hfe
  obtain ⟨rfl, rfl⟩ := hfe
  have HB1 := Lib.hid hb1
  clear hB1
  refine range_t (encs := fun x : Sig => #[sgV x]) (Ti := noT) (n₀ := w.heap.size) (Tu := tuS) (Mu := fun _ => false) rfl hent (by omega) (hseq (0 - 1)) (fun _ => rfl)
    (fun pre X => ∃ v, X.heap[w.heap.size]? = some (.cells #[v] 61 (0, 0)) ∧ X.ownsRow (w.heap.size + 1) 41 2 v pre.length (pre.flatMap sgCs) ∧ KeepU w.heap.size tuS (fun _ => false) w1 X ∧ w1.heap.size ≤ X.heap.size)
    (fun _ _ _ => False)
    (fun s X Y ⟨v, h1, h2, h3, h4⟩ hst => ⟨v, hst.block _ _ h1 (Or.inl (by omega)), ownsRow_same h2 (fun g cs f _ h => hst.block _ _ h (Or.inr ⟨_, _, _, rfl, rfl⟩)), h3.step (Nat.le_refl _) (by omega) hst h4, Nat.le_trans h4 hst.size⟩)
    (fun _ _ _ _ h _ => h.elim)
    ⟨_, hx1, World.ownsRow_nil _ _ _ _, KeepU.refl _ _ _ _, Nat.le_refl _⟩
    (fun x a' X => ∃ Bx, w1.heap.size ≤ Bx ∧ X.heap[Bx]? = some (.cells (sgCs x).toArray 41 (0, 0)) ∧
      a' = { tmps := #[.slice none 0 0, .func (.func 96) #[] #[.pointer (some ⟨Bk, 0, none⟩)], .pointer (some ⟨w.heap.size, 0, none⟩), undef, .slice none 0 0, .pointer (some ⟨Bx, 0, none⟩), .func (.func 96) #[] #[.pointer (some ⟨Bk, 0, none⟩)], sgV x, undef, undef, undef, undef, undef], defers := [] })
    (fun x a' _ X Y ⟨Bx, h1, h2, h3⟩ hst => ⟨Bx, h1, hst.block _ _ h2 (Or.inr ⟨_, _, _, rfl, rfl⟩), h3⟩) ?assign ?body ?done (fun _ _ _ _ _ _ h => h.elim)
  case assign =>
    rintro m' l' pre ⟨p, q⟩ X K' ⟨v, h1, h2, h3, h4⟩ hK'
    have hK2 := hK' _ _ ((KeepsOthers.alloc _ _).from _) (KeepU.alloc _ _ (by omega) (.cells #[.string p, .int .i64 q] 41)) ⟨v, (Below.heap_alloc _ _ _ (by omega)).trans h1, ownsRow_same h2 (fun g cs f _ h => (Below.heap_alloc _ _ _ (Array.getElem?_eq_some_iff.1 h).1).trans h), h3.trans (KeepU.alloc _ _ (by omega) _), by simp; omega⟩ ⟨X.heap.size, h4, World.alloc_heap_new _ _, rfl⟩
    have HK2 := Lib.hid hK2
    clear hK' hK2 h1 h2 h3
    simp only [sgV]
    gi_wp2
    exact HK2.out
  case body =>
    rintro m' l' pre x a2 X hl hrec _ _ hlt' _
    exact absurd hlt' (Nat.not_lt_zero _)
  case done =>
    rintro D' xs X hD ⟨hx1, hx2, hx3⟩ ⟨v, h1, h2, h3, h4⟩ hDX
    have HM := Lib.hid ((Marked.nil w.heap.size X).cons hDX (by omega) (by simp))
    have z0 := cells_at h1 0 _ rfl
    have HX1 := Lib.hid hx1
    have HX2 := Lib.hid hx2
    have HX3 := Lib.hid hx3
    have HR := Lib.hid h2
    have HK := Lib.hid h3
    clear hx1 hx2 hx3 h1 h2 h3 hDX hseq hent
    rw [marks_nil, marks_cons]
    gi_wp2
    show LeavesInM Fence.wide 0 Tryz.prog _ _ _ (marks [D']) .returning X
    refine leaves_swept [D'] X HM.out fun W' hW' => ⟨_, results_tmp rfl _ _ _, v, xs, rfl, HX1.out, HX2.out, ?_, (HB1.out.trans HK.out.low).trans hW'.below⟩
    obtain ⟨q1, q2⟩ := ownsRow_same HR.out (fun g cs f _ h => hW'.same g _ h rfl)
    refine ⟨q1, q2.imp id fun ⟨g, cap, cur, r1, r2, r3⟩ => ⟨g, cap, cur, r1, by omega, r3⟩⟩
theorem collectN_any (Bk : Nat) (w : World) (hB1 : w.heap[Bk]? = some (.cells #[.map none] 54 (0, 0))) :
    Calls Tryz.prog 64 #[.func (.func 96) #[] #[.pointer (some ⟨Bk, 0, none⟩)]] w fun e w' => ∃ (v : Value) (xs : List Sig), e = .returned v ∧ Coll [] w w' v xs := by
  have h := appendSeqN_any Bk w hB1
  have HA := Lib.hid h
  clear h hB1
  go_enter Tryz.func64, Tryz.ntmps64
  go_wp2_with (go_at_call 95; refine HA.out.mono ?_; rintro e w' ⟨v, xs, rfl, h1⟩; have H1 := Lib.hid h1; clear h1)
  go_ret
  exact ⟨v, xs, rfl, H1.out⟩
end Go.Proofs.YtcoieohbmkjpoaaGreatDoor
