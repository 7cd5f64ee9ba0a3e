/- Package term: Valid. -/
import Derived.Test.YtnobmffgchlijaaGreatDoorVd
import Derived.Test.YtnobmffgchlijaaGreatDoorRq
namespace Go.Proofs.YtnobmffgchlijaaGreatDoor
open Go.RowKit Go.Shelf Go.Maps
attribute [local go_sem] Oper.semAt_some

def nodeOkB (x : Tm × Nat) : Bool := decide (x.2 ≤ 12) && reqB x.1.kind x.1.num x.1.name x.1.args.length
def Tm.validB (t : Tm) : Bool := (t.nodes 1).all nodeOkB

theorem fnElem_inv {v : Value} {f : Nat} {ps : List MemPlace} (h : fnElem (H := Unit) v = some (.lit (.int .i64 f), ps)) : v = .func (.func f) #[] #[] := by
  unfold fnElem at h
  split at h
  · split at h
    · rename_i f' a b hab
      obtain ⟨rfl, rfl⟩ := hab
      simp only [Option.some.injEq, Prod.mk.injEq, DataW.lit.injEq, Lit.int.injEq, true_and] at h
      have e := h.1
      simp only [Int.natCast_inj] at e
      rw [e]
    · cases h
  · simp at h
  · cases h
theorem req_none {k : Int} (h : ¬ (1 ≤ k ∧ k ≤ 6)) : Maps.has reqD (.int .u8 k) = false := by
  simp only [reqD, Maps.has, List.any_cons, List.any_nil, Lit.sameKey, Bool.or_false]
  simp; omega
theorem reqB_none {k n : Int} {s : ByteArray} {m : Nat} (h : ¬ (1 ≤ k ∧ k ≤ 6)) : reqB k n s m = false := by
  unfold reqB
  rw [if_neg (by omega), if_neg (by omega), if_neg (by omega), if_neg (by omega), if_neg (by omega), if_neg (by omega)]

set_option maxRecDepth 100000 in
set_option maxHeartbeats 2000000 in
theorem valid_in (t : Tm) (c0 c1 c2 c3 : Value) (w : World) (ht : IsTm w.heap.size w c0 c1 c2 c3 t) (hdep : t.depth < 4611686018427387900) :
    CallsIn Fence.wide 8 Tryz.prog 14 #[.agg #[c0, c1, c2, c3]] w fun e w' => e = .returned (.bool t.validB) ∧ Below w.heap.size w w' := by
  have hd : Fence.wide.depth = none := rfl
  have hro : Fence.wide.round = none := rfl
  have hdd : ∀ k : Nat, (Fence.wide.depth.isSome = true → 1 ≤ k) := fun k h => by rw [hd] at h; cases h
  have hg : t.validB = (t.nodes 1).all nodeOkB := rfl
  have HG := Lib.hid hg; clear hg
  refine callsIn_of_wp_marks Tryz.func14 rfl trivial ?_ hro
  simp only [Tryz.ntmps14, List.size_toArray, List.length_cons, List.length_nil, Nat.reduceAdd, Nat.reduceSub, Array.replicate_succ, Array.replicate_zero, List.push_toArray, List.append_toArray, List.nil_append, List.cons_append]
  gi_wp2_with (refine ⟨trivial, ?_⟩; gi_at_call 36; refine (callsIn_wide.2 (req_any _)).mono ?_)
  rintro e w1 ⟨rfl, hown, hB1, hz1⟩
  simp only [World.size_alloc] at hown hB1 hz1 ⊢
  have hBw : Below w.heap.size w w1 := (((Below.refl _ w).alloc (Nat.le_refl _) _).alloc (by simp) _).trans (hB1.mono (by omega))
  have hb1 : w1.heap[w.heap.size]? = some (.cells #[c0, c1, c2, c3] 32 (0, 0)) :=
    (hB1.block _ (by omega)).trans ((Below.heap_alloc _ _ _ (by simp)).trans (World.alloc_heap_new w _))
  have hbr : Boxed w1 (w.heap.size + 1) 4 (.bool false) := by
    refine (hB1.block _ (by omega)).trans ?_
    have := Boxed.new (w.alloc (.cells #[c0, c1, c2, c3] 32)) 4 (.bool false)
    rw [World.size_alloc] at this; exact this
  have g0 := cells_at hb1 0 c0 rfl
  have g1 := cells_at hb1 1 c1 rfl
  have g2 := cells_at hb1 2 c2 rfl
  have g3 := cells_at hb1 3 c3 rfl
  have hlt0 : w.heap.size < w1.heap.size := by omega
  have hne0 : ¬ w.heap.size = w1.heap.size := by omega
  gi_wp2_with (refine ⟨trivial, ?_⟩; gi_at_call 37; refine (subterms_in Fence.wide 7 trivial hro _ _ _ _ _).mono ?_; rintro e w' ⟨rfl, rfl⟩)
  obtain ⟨es, clock, hmb, hFt, hes, hD⟩ := hown
  have HFt := Lib.hid hFt; clear hFt
  have HD := Lib.hid hD; clear hD
  obtain ⟨W0, hW0⟩ : ∃ W0, (w1.alloc (.cells #[.map (some (w.heap.size + 1 + 1))] 62)).alloc (.cells #[c0, c1, c2, c3] 32) = W0 := ⟨_, rfl⟩
  have hsz : W0.heap.size = w1.heap.size + 2 := by rw [← hW0]; simp
  have hb0 : Below w.heap.size w W0 := by rw [← hW0]; exact (hBw.alloc (by omega) _).alloc (by simp; omega) _
  have hbd : Boxed W0 (w.heap.size + 1) 4 (.bool false) := by rw [← hW0]; exact (hbr.alloc _).alloc _
  have hbn : Boxed W0 w1.heap.size 62 (.map (some (w.heap.size + 1 + 1))) := by rw [← hW0]; exact (Boxed.new w1 _ _).alloc _
  have hm0 : W0.heap[w.heap.size + 1 + 1]? = some (.map es clock) := by
    rw [← hW0]; exact (Below.heap_alloc _ _ _ (by simp; omega)).trans ((Below.heap_alloc _ _ _ (by omega)).trans hmb)
  have hbt : W0.heap[w1.heap.size + 1]? = some (.cells #[c0, c1, c2, c3] 32 (0, 0)) := by
    rw [← hW0]; have := World.alloc_heap_new (w1.alloc (.cells #[.map (some (w.heap.size + 1 + 1))] 62)) (.cells #[c0, c1, c2, c3] 32)
    rw [World.size_alloc] at this; exact this
  rw [hW0]
  clear hW0 hb1 hbr g0 g1 g2 g3 hmb
  refine wpIn_rangeFunc_ownH hro (by omega) (gf := 64) (lb := #[.pointer (some ⟨w1.heap.size + 1, 0, none⟩)]) rfl trivial (enters_of Tryz.func64 (by kernel_rfl) rfl)
    (subterms_stops Fence.wide hd 7 trivial trivial hro (w1.heap.size + 1) w.heap.size w W0 t c0 c1 c2 c3 (by omega) hb0 ht hdep hbt) Kept.trans
    (fun W l o o' hl h hc _ => Kept.putObj o' (by omega) (by have := (Array.getElem?_eq_some_iff.1 h).1; omega) h hc) (Below.refl _ _) (fun _ => rfl)
    (fun pre W => (Boxed W (w.heap.size + 1) 4 (.bool false) ∧ Boxed W w1.heap.size 62 (.map (some (w.heap.size + 1 + 1)))) ∧ (W.heap[w.heap.size + 1 + 1]? = some (.map es clock) ∧ Below w.heap.size w W ∧ W0.heap.size ≤ W.heap.size) ∧ pre.all (fun x => nodeOkB x.key) = true)
    (fun c pre W => (Boxed W (w.heap.size + 1) 4 (.bool false) ∧ Boxed W w1.heap.size 62 (.map (some (w.heap.size + 1 + 1)))) ∧ (W.heap[w.heap.size + 1 + 1]? = some (.map es clock) ∧ Below w.heap.size w W ∧ W0.heap.size ≤ W.heap.size) ∧ (c = .ret ∧ pre.all (fun x => nodeOkB x.key) = false))
    (OwnFrom.and (OwnFrom.and (Own.from (boxed_own _ _ fun _ => .bool false) _) (Own.from (boxed_own _ _ fun _ => .map (some (w.heap.size + 1 + 1))) _)) (OwnFrom.and (OwnFrom.and (fun _ X Y row hs hg hr => (hg.block _ (Array.getElem?_eq_some_iff.1 hs).1 (fun e => by have := (hr _ e.symm).1; omega)).trans hs) (OwnFrom.and (ownFrom_below (Nat.le_refl _) (by omega)) (fun _ _ _ _ hs hg _ => Nat.le_trans hs hg.size))) (ownFrom_pure _ _)))
    (fun c => OwnFrom.and (OwnFrom.and (Own.from (boxed_own _ _ fun _ => .bool false) _) (Own.from (boxed_own _ _ fun _ => .map (some (w.heap.size + 1 + 1))) _)) (OwnFrom.and (OwnFrom.and (fun _ X Y row hs hg hr => (hg.block _ (Array.getElem?_eq_some_iff.1 hs).1 (fun e => by have := (hr _ e.symm).1; omega)).trans hs) (OwnFrom.and (ownFrom_below (Nat.le_refl _) (by omega)) (fun _ _ _ _ hs hg _ => Nat.le_trans hs hg.size))) (ownFrom_pure _ (fun (pre : List (NdIn w.heap.size w)) => c = .ret ∧ pre.all (fun x => nodeOkB x.key) = false))))
    ⟨⟨hbd, hbn⟩, ⟨hm0, hb0, Nat.le_refl _⟩, rfl⟩
    (fun x a' W => ∃ Bx, W0.heap.size ≤ Bx ∧ W.heap[Bx]? = some (.cells #[x.1.c0, x.1.c1, x.1.c2, x.1.c3, .int .i64 x.1.l] 68 (0, 0)) ∧
      a' = { tmps := #[Value.agg #[c0, c1, c2, c3], Value.pointer (some { block := w.heap.size, off := 0 }), Value.pointer (some { block := w.heap.size + 1, off := 0 }), Value.pointer (some { block := w1.heap.size, off := 0 }),
          Value.pointer (some { block := Bx, off := 0 }), undef, undef, Value.map (some (w.heap.size + 1 + 1)), Value.agg #[c0, c1, c2, c3],
          Value.func (Fn.func 64) #[] #[Value.pointer (some { block := w1.heap.size + 1, off := 0 })], x.val, undef,
          undef, undef, undef, undef, undef, undef, undef, undef, undef, undef, undef, undef, undef, undef, undef, undef, undef, undef, undef, undef], defers := [] })
    (fun x a' s X Y row hs hg hr => by
      obtain ⟨Bx, h1, h2, h3⟩ := hs
      exact ⟨Bx, h1, cells_own Bx 68 (fun _ : Unit => #[x.1.c0, x.1.c1, x.1.c2, x.1.c3, .int .i64 x.1.l]) () X Y row h2 hg (fun r e => (hr r e).2), h3⟩) ?assign ?body ?done ?stop
  case assign =>
    rintro l pre ⟨⟨d0, d1, d2, d3, ⟨k', n', s', as'⟩, lv⟩, hx, hlv⟩ W K ⟨⟨hi1, hi1'⟩, ⟨him, hi2, hiz⟩, hi3⟩ hK
    have hx0 := hx
    simp only [IsTm] at hx
    obtain ⟨rfl, _, rfl, _, rfl, _, a', cap', rfl, _, _⟩ := hx
    have hK' := hK _ _ ((KeepsOthers.alloc _ _).from _) ((Kept.refl _ _ W).alloc (by omega) (.cells #[.int .u8 k', .int .i64 n', .string s', .slice a' as'.length cap', .int .i64 lv] 68)) ⟨⟨hi1.alloc _, hi1'.alloc _⟩, ⟨(Below.heap_alloc _ _ _ (by omega)).trans him, hi2.alloc (by omega) _, by simp; omega⟩, hi3⟩ ⟨W.heap.size, hiz, World.alloc_heap_new _ _, rfl⟩
    clear hK
    have HK := Lib.hid hK'; clear hK' hi3
    simp only [NdIn.val]
    gi_wp2
    exact HK.out
  case body =>
    rintro l pre ⟨⟨d0, d1, d2, d3, ⟨k', n', s', as'⟩, lv⟩, hx, hlv⟩ a' W hl hrec ⟨⟨hi1, hi1'⟩, ⟨him, hi2, hiz⟩, hi3⟩ ⟨Bx, hBx, hbx, rfl⟩ hlt
    have hx0 := hx
    simp only [IsTm] at hx
    obtain ⟨rfl, hk, rfl, _, rfl, hs', a', cap', rfl, hm', _⟩ := hx
    simp only at hbx hlv
    have q0 := cells_at hbx 0 _ rfl
    have q1 := cells_at hbx 1 _ rfl
    have q2 := cells_at hbx 2 _ rfl
    have q3 := cells_at hbx 3 _ rfl
    have q4 := cells_at hbx 4 _ rfl
    have qd := hi1.cell
    have qf := hi1.frozen
    have qn := hi1'.cell
    have hlt1 : w.heap.size + 1 < W.heap.size := by omega
    have HI := Lib.hid hi3; clear hi3
    have hown : W.ownsMap Tryz.prog 5 fnElem (w.heap.size + 1 + 1) 6 reqD := ⟨es, clock, him, HFt.out, hes, HD.out⟩
    have hz62 : ∀ w, (zeroValue 69).run Tryz.prog w = .ok .nilFunc w := fun _ => by kernel_rfl
    have hwf : (Lit.int .u8 k').wf = true := WalkArith.wf_u8 hk
    have hv : ∀ b, nodeOkB (.mk k' n' s' as', lv) = b → (pre ++ [(⟨⟨.int .u8 k', .int .i64 n', .string s', .slice a' as'.length cap', .mk k' n' s' as', lv⟩, hx0, hlv⟩ : NdIn w.heap.size w)]).all (fun x => nodeOkB x.key) = b := by
      intro b hb
      rw [List.all_append, HI.out]; simp only [List.all_cons, List.all_nil, NdIn.key, hb, Bool.true_and, Bool.and_true]
    have HV := Lib.hid hv; clear hv
    have HX := Lib.hid hx0
    have HM := Lib.hid hm'
    have HS := Lib.hid hs'
    have hnode : nodeOkB (.mk k' n' s' as', lv) = (decide (lv ≤ 12) && reqB k' n' s' as'.length) := rfl
    have HN := Lib.hid hnode; clear hnode
    have HW := Lib.hid hwf; clear hwf
    have HZ := Lib.hid hz62; clear hz62
    have HO := Lib.hid hown; clear hown
    have hcs : k' = 1 ∨ k' = 2 ∨ k' = 3 ∨ k' = 4 ∨ k' = 5 ∨ k' = 6 ∨ ¬ (1 ≤ k' ∧ k' ≤ 6) := by omega

    rcases hcs with rfl | rfl | rfl | rfl | rfl | rfl | hno
    · have hh : Maps.has reqD (.int .u8 1) = true := rfl
      by_cases hl12 : lv ≤ 12
      · cases hq : reqB 1 n' s' as'.length
        · have HQ := Lib.hid (HV.out false (by rw [HN.out, hq, Bool.and_false]))
          gi_wp2_with (first | (gi_at_lookup; refine wpListIn_lookup_own_ok _ rfl _ _ 62 rfl 5 69 (Maps.int_keyed Tryz.underlying5) Tryz.underlying62 fnElem (HZ.out _) .nil [] rfl _ _ _ rfl HO.out (.int .u8 1) (.int .u8 1) rfl (Maps.keyOf_int_mk Tryz.underlying5 HW.out) ?_; intro v ps hv; obtain rfl := fnElem_inv (f := 55) hv; clear hv) | (refine ⟨trivial, ?_⟩; gi_at_call 55; refine (CallsIn.inRound l (callsIn_wide.2 (req1 _ _ _ _ _ _ _ _ HM.out))).mono ?_; rintro e W1 ⟨rfl, rfl⟩))
          exact ⟨((KeepsOthers.setCell _ _ _).trans (KeepsOthers.alloc _ _)).from _, ⟨(hi1.set _).alloc _, (hi1'.other (by omega) _).alloc _⟩, ⟨(Below.heap_alloc _ _ _ (by simp; omega)).trans ((Below.heap_setCell _ _ _ _ (by simp)).trans him), (hi2.setCell (p := ⟨w.heap.size + 1, 0, none⟩) (by simp) _).alloc (by simp; omega) _, by simp; omega⟩, rfl, HQ.out⟩
        · have HQ := Lib.hid (HV.out true (by rw [HN.out, hq, decide_eq_true hl12]; rfl))
          gi_wp2_with (first | (gi_at_lookup; refine wpListIn_lookup_own_ok _ rfl _ _ 62 rfl 5 69 (Maps.int_keyed Tryz.underlying5) Tryz.underlying62 fnElem (HZ.out _) .nil [] rfl _ _ _ rfl HO.out (.int .u8 1) (.int .u8 1) rfl (Maps.keyOf_int_mk Tryz.underlying5 HW.out) ?_; intro v ps hv; obtain rfl := fnElem_inv (f := 55) hv; clear hv) | (refine ⟨trivial, ?_⟩; gi_at_call 55; refine (CallsIn.inRound l (callsIn_wide.2 (req1 _ _ _ _ _ _ _ _ HM.out))).mono ?_; rintro e W1 ⟨rfl, rfl⟩))
          exact ⟨(KeepsOthers.alloc _ _).from _, (Kept.refl _ _ _).alloc (by omega) _, ⟨hi1.alloc _, hi1'.alloc _⟩, ⟨(Below.heap_alloc _ _ _ (by omega)).trans him, hi2.alloc (by omega) _, by simp; omega⟩, HQ.out⟩
      · have HQ := Lib.hid (HV.out false (by rw [HN.out, decide_eq_false hl12]; rfl))
        gi_wp2_with (first | (gi_at_lookup; refine wpListIn_lookup_own_ok _ rfl _ _ 62 rfl 5 69 (Maps.int_keyed Tryz.underlying5) Tryz.underlying62 fnElem (HZ.out _) .nil [] rfl _ _ _ rfl HO.out (.int .u8 1) (.int .u8 1) rfl (Maps.keyOf_int_mk Tryz.underlying5 HW.out) ?_; intro v ps hv; obtain rfl := fnElem_inv (f := 55) hv; clear hv) | (refine ⟨trivial, ?_⟩; gi_at_call 55; refine (CallsIn.inRound l (callsIn_wide.2 (req1 _ _ _ _ _ _ _ _ HM.out))).mono ?_; rintro e W1 ⟨rfl, rfl⟩))
        refine ⟨fun _ h => (by cases h), ?_⟩
        gi_wp2
        exact ⟨(KeepsOthers.setCell _ _ _).from _, ⟨hi1.set _, hi1'.other (by omega) _⟩, ⟨(Below.heap_setCell _ _ _ _ (by simp)).trans him, hi2.setCell (p := ⟨w.heap.size + 1, 0, none⟩) (by simp) _, by simp; omega⟩, rfl, HQ.out⟩
    · have hh : Maps.has reqD (.int .u8 2) = true := rfl
      by_cases hl12 : lv ≤ 12
      · cases hq : reqB 2 n' s' as'.length
        · have HQ := Lib.hid (HV.out false (by rw [HN.out, hq, Bool.and_false]))
          gi_wp2_with (first | (gi_at_lookup; refine wpListIn_lookup_own_ok _ rfl _ _ 62 rfl 5 69 (Maps.int_keyed Tryz.underlying5) Tryz.underlying62 fnElem (HZ.out _) .nil [] rfl _ _ _ rfl HO.out (.int .u8 2) (.int .u8 2) rfl (Maps.keyOf_int_mk Tryz.underlying5 HW.out) ?_; intro v ps hv; obtain rfl := fnElem_inv (f := 56) hv; clear hv) | (refine ⟨trivial, ?_⟩; gi_at_call 56; refine (CallsIn.inRound l (callsIn_wide.2 (req2 _ _ _ _ _ _ _ _ HM.out HS.out))).mono ?_; rintro e W1 ⟨rfl, rfl⟩))
          exact ⟨((KeepsOthers.setCell _ _ _).trans (KeepsOthers.alloc _ _)).from _, ⟨(hi1.set _).alloc _, (hi1'.other (by omega) _).alloc _⟩, ⟨(Below.heap_alloc _ _ _ (by simp; omega)).trans ((Below.heap_setCell _ _ _ _ (by simp)).trans him), (hi2.setCell (p := ⟨w.heap.size + 1, 0, none⟩) (by simp) _).alloc (by simp; omega) _, by simp; omega⟩, rfl, HQ.out⟩
        · have HQ := Lib.hid (HV.out true (by rw [HN.out, hq, decide_eq_true hl12]; rfl))
          gi_wp2_with (first | (gi_at_lookup; refine wpListIn_lookup_own_ok _ rfl _ _ 62 rfl 5 69 (Maps.int_keyed Tryz.underlying5) Tryz.underlying62 fnElem (HZ.out _) .nil [] rfl _ _ _ rfl HO.out (.int .u8 2) (.int .u8 2) rfl (Maps.keyOf_int_mk Tryz.underlying5 HW.out) ?_; intro v ps hv; obtain rfl := fnElem_inv (f := 56) hv; clear hv) | (refine ⟨trivial, ?_⟩; gi_at_call 56; refine (CallsIn.inRound l (callsIn_wide.2 (req2 _ _ _ _ _ _ _ _ HM.out HS.out))).mono ?_; rintro e W1 ⟨rfl, rfl⟩))
          exact ⟨(KeepsOthers.alloc _ _).from _, (Kept.refl _ _ _).alloc (by omega) _, ⟨hi1.alloc _, hi1'.alloc _⟩, ⟨(Below.heap_alloc _ _ _ (by omega)).trans him, hi2.alloc (by omega) _, by simp; omega⟩, HQ.out⟩
      · have HQ := Lib.hid (HV.out false (by rw [HN.out, decide_eq_false hl12]; rfl))
        gi_wp2_with (first | (gi_at_lookup; refine wpListIn_lookup_own_ok _ rfl _ _ 62 rfl 5 69 (Maps.int_keyed Tryz.underlying5) Tryz.underlying62 fnElem (HZ.out _) .nil [] rfl _ _ _ rfl HO.out (.int .u8 2) (.int .u8 2) rfl (Maps.keyOf_int_mk Tryz.underlying5 HW.out) ?_; intro v ps hv; obtain rfl := fnElem_inv (f := 56) hv; clear hv) | (refine ⟨trivial, ?_⟩; gi_at_call 56; refine (CallsIn.inRound l (callsIn_wide.2 (req2 _ _ _ _ _ _ _ _ HM.out HS.out))).mono ?_; rintro e W1 ⟨rfl, rfl⟩))
        refine ⟨fun _ h => (by cases h), ?_⟩
        gi_wp2
        exact ⟨(KeepsOthers.setCell _ _ _).from _, ⟨hi1.set _, hi1'.other (by omega) _⟩, ⟨(Below.heap_setCell _ _ _ _ (by simp)).trans him, hi2.setCell (p := ⟨w.heap.size + 1, 0, none⟩) (by simp) _, by simp; omega⟩, rfl, HQ.out⟩
    · have hh : Maps.has reqD (.int .u8 3) = true := rfl
      by_cases hl12 : lv ≤ 12
      · cases hq : reqB 3 n' s' as'.length
        · have HQ := Lib.hid (HV.out false (by rw [HN.out, hq, Bool.and_false]))
          gi_wp2_with (first | (gi_at_lookup; refine wpListIn_lookup_own_ok _ rfl _ _ 62 rfl 5 69 (Maps.int_keyed Tryz.underlying5) Tryz.underlying62 fnElem (HZ.out _) .nil [] rfl _ _ _ rfl HO.out (.int .u8 3) (.int .u8 3) rfl (Maps.keyOf_int_mk Tryz.underlying5 HW.out) ?_; intro v ps hv; obtain rfl := fnElem_inv (f := 58) hv; clear hv) | (refine ⟨trivial, ?_⟩; gi_at_call 58; refine (CallsIn.inRound l (callsIn_wide.2 (req3 _ _ _ _ _ _ _ _ HM.out HS.out))).mono ?_; rintro e W1 ⟨rfl, rfl⟩))
          exact ⟨((KeepsOthers.setCell _ _ _).trans (KeepsOthers.alloc _ _)).from _, ⟨(hi1.set _).alloc _, (hi1'.other (by omega) _).alloc _⟩, ⟨(Below.heap_alloc _ _ _ (by simp; omega)).trans ((Below.heap_setCell _ _ _ _ (by simp)).trans him), (hi2.setCell (p := ⟨w.heap.size + 1, 0, none⟩) (by simp) _).alloc (by simp; omega) _, by simp; omega⟩, rfl, HQ.out⟩
        · have HQ := Lib.hid (HV.out true (by rw [HN.out, hq, decide_eq_true hl12]; rfl))
          gi_wp2_with (first | (gi_at_lookup; refine wpListIn_lookup_own_ok _ rfl _ _ 62 rfl 5 69 (Maps.int_keyed Tryz.underlying5) Tryz.underlying62 fnElem (HZ.out _) .nil [] rfl _ _ _ rfl HO.out (.int .u8 3) (.int .u8 3) rfl (Maps.keyOf_int_mk Tryz.underlying5 HW.out) ?_; intro v ps hv; obtain rfl := fnElem_inv (f := 58) hv; clear hv) | (refine ⟨trivial, ?_⟩; gi_at_call 58; refine (CallsIn.inRound l (callsIn_wide.2 (req3 _ _ _ _ _ _ _ _ HM.out HS.out))).mono ?_; rintro e W1 ⟨rfl, rfl⟩))
          exact ⟨(KeepsOthers.alloc _ _).from _, (Kept.refl _ _ _).alloc (by omega) _, ⟨hi1.alloc _, hi1'.alloc _⟩, ⟨(Below.heap_alloc _ _ _ (by omega)).trans him, hi2.alloc (by omega) _, by simp; omega⟩, HQ.out⟩
      · have HQ := Lib.hid (HV.out false (by rw [HN.out, decide_eq_false hl12]; rfl))
        gi_wp2_with (first | (gi_at_lookup; refine wpListIn_lookup_own_ok _ rfl _ _ 62 rfl 5 69 (Maps.int_keyed Tryz.underlying5) Tryz.underlying62 fnElem (HZ.out _) .nil [] rfl _ _ _ rfl HO.out (.int .u8 3) (.int .u8 3) rfl (Maps.keyOf_int_mk Tryz.underlying5 HW.out) ?_; intro v ps hv; obtain rfl := fnElem_inv (f := 58) hv; clear hv) | (refine ⟨trivial, ?_⟩; gi_at_call 58; refine (CallsIn.inRound l (callsIn_wide.2 (req3 _ _ _ _ _ _ _ _ HM.out HS.out))).mono ?_; rintro e W1 ⟨rfl, rfl⟩))
        refine ⟨fun _ h => (by cases h), ?_⟩
        gi_wp2
        exact ⟨(KeepsOthers.setCell _ _ _).from _, ⟨hi1.set _, hi1'.other (by omega) _⟩, ⟨(Below.heap_setCell _ _ _ _ (by simp)).trans him, hi2.setCell (p := ⟨w.heap.size + 1, 0, none⟩) (by simp) _, by simp; omega⟩, rfl, HQ.out⟩
    · have hh : Maps.has reqD (.int .u8 4) = true := rfl
      by_cases hl12 : lv ≤ 12
      · cases hq : reqB 4 n' s' as'.length
        · have HQ := Lib.hid (HV.out false (by rw [HN.out, hq, Bool.and_false]))
          gi_wp2_with (first | (gi_at_lookup; refine wpListIn_lookup_own_ok _ rfl _ _ 62 rfl 5 69 (Maps.int_keyed Tryz.underlying5) Tryz.underlying62 fnElem (HZ.out _) .nil [] rfl _ _ _ rfl HO.out (.int .u8 4) (.int .u8 4) rfl (Maps.keyOf_int_mk Tryz.underlying5 HW.out) ?_; intro v ps hv; obtain rfl := fnElem_inv (f := 60) hv; clear hv) | (refine ⟨trivial, ?_⟩; gi_at_call 60; refine (CallsIn.inRound l (callsIn_wide.2 (req4 _ _ _ _ _ _ _ _ HM.out HS.out))).mono ?_; rintro e W1 ⟨rfl, rfl⟩))
          exact ⟨((KeepsOthers.setCell _ _ _).trans (KeepsOthers.alloc _ _)).from _, ⟨(hi1.set _).alloc _, (hi1'.other (by omega) _).alloc _⟩, ⟨(Below.heap_alloc _ _ _ (by simp; omega)).trans ((Below.heap_setCell _ _ _ _ (by simp)).trans him), (hi2.setCell (p := ⟨w.heap.size + 1, 0, none⟩) (by simp) _).alloc (by simp; omega) _, by simp; omega⟩, rfl, HQ.out⟩
        · have HQ := Lib.hid (HV.out true (by rw [HN.out, hq, decide_eq_true hl12]; rfl))
          gi_wp2_with (first | (gi_at_lookup; refine wpListIn_lookup_own_ok _ rfl _ _ 62 rfl 5 69 (Maps.int_keyed Tryz.underlying5) Tryz.underlying62 fnElem (HZ.out _) .nil [] rfl _ _ _ rfl HO.out (.int .u8 4) (.int .u8 4) rfl (Maps.keyOf_int_mk Tryz.underlying5 HW.out) ?_; intro v ps hv; obtain rfl := fnElem_inv (f := 60) hv; clear hv) | (refine ⟨trivial, ?_⟩; gi_at_call 60; refine (CallsIn.inRound l (callsIn_wide.2 (req4 _ _ _ _ _ _ _ _ HM.out HS.out))).mono ?_; rintro e W1 ⟨rfl, rfl⟩))
          exact ⟨(KeepsOthers.alloc _ _).from _, (Kept.refl _ _ _).alloc (by omega) _, ⟨hi1.alloc _, hi1'.alloc _⟩, ⟨(Below.heap_alloc _ _ _ (by omega)).trans him, hi2.alloc (by omega) _, by simp; omega⟩, HQ.out⟩
      · have HQ := Lib.hid (HV.out false (by rw [HN.out, decide_eq_false hl12]; rfl))
        gi_wp2_with (first | (gi_at_lookup; refine wpListIn_lookup_own_ok _ rfl _ _ 62 rfl 5 69 (Maps.int_keyed Tryz.underlying5) Tryz.underlying62 fnElem (HZ.out _) .nil [] rfl _ _ _ rfl HO.out (.int .u8 4) (.int .u8 4) rfl (Maps.keyOf_int_mk Tryz.underlying5 HW.out) ?_; intro v ps hv; obtain rfl := fnElem_inv (f := 60) hv; clear hv) | (refine ⟨trivial, ?_⟩; gi_at_call 60; refine (CallsIn.inRound l (callsIn_wide.2 (req4 _ _ _ _ _ _ _ _ HM.out HS.out))).mono ?_; rintro e W1 ⟨rfl, rfl⟩))
        refine ⟨fun _ h => (by cases h), ?_⟩
        gi_wp2
        exact ⟨(KeepsOthers.setCell _ _ _).from _, ⟨hi1.set _, hi1'.other (by omega) _⟩, ⟨(Below.heap_setCell _ _ _ _ (by simp)).trans him, hi2.setCell (p := ⟨w.heap.size + 1, 0, none⟩) (by simp) _, by simp; omega⟩, rfl, HQ.out⟩
    · have hh : Maps.has reqD (.int .u8 5) = true := rfl
      by_cases hl12 : lv ≤ 12
      · cases hq : reqB 5 n' s' as'.length
        · have HQ := Lib.hid (HV.out false (by rw [HN.out, hq, Bool.and_false]))
          gi_wp2_with (first | (gi_at_lookup; refine wpListIn_lookup_own_ok _ rfl _ _ 62 rfl 5 69 (Maps.int_keyed Tryz.underlying5) Tryz.underlying62 fnElem (HZ.out _) .nil [] rfl _ _ _ rfl HO.out (.int .u8 5) (.int .u8 5) rfl (Maps.keyOf_int_mk Tryz.underlying5 HW.out) ?_; intro v ps hv; obtain rfl := fnElem_inv (f := 61) hv; clear hv) | (refine ⟨trivial, ?_⟩; gi_at_call 61; refine (CallsIn.inRound l (callsIn_wide.2 (req5 _ _ _ _ _ _ _ _ HM.out))).mono ?_; rintro e W1 ⟨rfl, rfl⟩))
          exact ⟨((KeepsOthers.setCell _ _ _).trans (KeepsOthers.alloc _ _)).from _, ⟨(hi1.set _).alloc _, (hi1'.other (by omega) _).alloc _⟩, ⟨(Below.heap_alloc _ _ _ (by simp; omega)).trans ((Below.heap_setCell _ _ _ _ (by simp)).trans him), (hi2.setCell (p := ⟨w.heap.size + 1, 0, none⟩) (by simp) _).alloc (by simp; omega) _, by simp; omega⟩, rfl, HQ.out⟩
        · have HQ := Lib.hid (HV.out true (by rw [HN.out, hq, decide_eq_true hl12]; rfl))
          gi_wp2_with (first | (gi_at_lookup; refine wpListIn_lookup_own_ok _ rfl _ _ 62 rfl 5 69 (Maps.int_keyed Tryz.underlying5) Tryz.underlying62 fnElem (HZ.out _) .nil [] rfl _ _ _ rfl HO.out (.int .u8 5) (.int .u8 5) rfl (Maps.keyOf_int_mk Tryz.underlying5 HW.out) ?_; intro v ps hv; obtain rfl := fnElem_inv (f := 61) hv; clear hv) | (refine ⟨trivial, ?_⟩; gi_at_call 61; refine (CallsIn.inRound l (callsIn_wide.2 (req5 _ _ _ _ _ _ _ _ HM.out))).mono ?_; rintro e W1 ⟨rfl, rfl⟩))
          exact ⟨(KeepsOthers.alloc _ _).from _, (Kept.refl _ _ _).alloc (by omega) _, ⟨hi1.alloc _, hi1'.alloc _⟩, ⟨(Below.heap_alloc _ _ _ (by omega)).trans him, hi2.alloc (by omega) _, by simp; omega⟩, HQ.out⟩
      · have HQ := Lib.hid (HV.out false (by rw [HN.out, decide_eq_false hl12]; rfl))
        gi_wp2_with (first | (gi_at_lookup; refine wpListIn_lookup_own_ok _ rfl _ _ 62 rfl 5 69 (Maps.int_keyed Tryz.underlying5) Tryz.underlying62 fnElem (HZ.out _) .nil [] rfl _ _ _ rfl HO.out (.int .u8 5) (.int .u8 5) rfl (Maps.keyOf_int_mk Tryz.underlying5 HW.out) ?_; intro v ps hv; obtain rfl := fnElem_inv (f := 61) hv; clear hv) | (refine ⟨trivial, ?_⟩; gi_at_call 61; refine (CallsIn.inRound l (callsIn_wide.2 (req5 _ _ _ _ _ _ _ _ HM.out))).mono ?_; rintro e W1 ⟨rfl, rfl⟩))
        refine ⟨fun _ h => (by cases h), ?_⟩
        gi_wp2
        exact ⟨(KeepsOthers.setCell _ _ _).from _, ⟨hi1.set _, hi1'.other (by omega) _⟩, ⟨(Below.heap_setCell _ _ _ _ (by simp)).trans him, hi2.setCell (p := ⟨w.heap.size + 1, 0, none⟩) (by simp) _, by simp; omega⟩, rfl, HQ.out⟩
    · have hh : Maps.has reqD (.int .u8 6) = true := rfl
      by_cases hl12 : lv ≤ 12
      · cases hq : reqB 6 n' s' as'.length
        · have HQ := Lib.hid (HV.out false (by rw [HN.out, hq, Bool.and_false]))
          gi_wp2_with (first | (gi_at_lookup; refine wpListIn_lookup_own_ok _ rfl _ _ 62 rfl 5 69 (Maps.int_keyed Tryz.underlying5) Tryz.underlying62 fnElem (HZ.out _) .nil [] rfl _ _ _ rfl HO.out (.int .u8 6) (.int .u8 6) rfl (Maps.keyOf_int_mk Tryz.underlying5 HW.out) ?_; intro v ps hv; obtain rfl := fnElem_inv (f := 63) hv; clear hv) | (refine ⟨trivial, ?_⟩; gi_at_call 63; refine (CallsIn.inRound l (callsIn_wide.2 (req6 _ _ _ _ _ _ _ _ HM.out))).mono ?_; rintro e W1 ⟨rfl, rfl⟩))
          exact ⟨((KeepsOthers.setCell _ _ _).trans (KeepsOthers.alloc _ _)).from _, ⟨(hi1.set _).alloc _, (hi1'.other (by omega) _).alloc _⟩, ⟨(Below.heap_alloc _ _ _ (by simp; omega)).trans ((Below.heap_setCell _ _ _ _ (by simp)).trans him), (hi2.setCell (p := ⟨w.heap.size + 1, 0, none⟩) (by simp) _).alloc (by simp; omega) _, by simp; omega⟩, rfl, HQ.out⟩
        · have HQ := Lib.hid (HV.out true (by rw [HN.out, hq, decide_eq_true hl12]; rfl))
          gi_wp2_with (first | (gi_at_lookup; refine wpListIn_lookup_own_ok _ rfl _ _ 62 rfl 5 69 (Maps.int_keyed Tryz.underlying5) Tryz.underlying62 fnElem (HZ.out _) .nil [] rfl _ _ _ rfl HO.out (.int .u8 6) (.int .u8 6) rfl (Maps.keyOf_int_mk Tryz.underlying5 HW.out) ?_; intro v ps hv; obtain rfl := fnElem_inv (f := 63) hv; clear hv) | (refine ⟨trivial, ?_⟩; gi_at_call 63; refine (CallsIn.inRound l (callsIn_wide.2 (req6 _ _ _ _ _ _ _ _ HM.out))).mono ?_; rintro e W1 ⟨rfl, rfl⟩))
          exact ⟨(KeepsOthers.alloc _ _).from _, (Kept.refl _ _ _).alloc (by omega) _, ⟨hi1.alloc _, hi1'.alloc _⟩, ⟨(Below.heap_alloc _ _ _ (by omega)).trans him, hi2.alloc (by omega) _, by simp; omega⟩, HQ.out⟩
      · have HQ := Lib.hid (HV.out false (by rw [HN.out, decide_eq_false hl12]; rfl))
        gi_wp2_with (first | (gi_at_lookup; refine wpListIn_lookup_own_ok _ rfl _ _ 62 rfl 5 69 (Maps.int_keyed Tryz.underlying5) Tryz.underlying62 fnElem (HZ.out _) .nil [] rfl _ _ _ rfl HO.out (.int .u8 6) (.int .u8 6) rfl (Maps.keyOf_int_mk Tryz.underlying5 HW.out) ?_; intro v ps hv; obtain rfl := fnElem_inv (f := 63) hv; clear hv) | (refine ⟨trivial, ?_⟩; gi_at_call 63; refine (CallsIn.inRound l (callsIn_wide.2 (req6 _ _ _ _ _ _ _ _ HM.out))).mono ?_; rintro e W1 ⟨rfl, rfl⟩))
        refine ⟨fun _ h => (by cases h), ?_⟩
        gi_wp2
        exact ⟨(KeepsOthers.setCell _ _ _).from _, ⟨hi1.set _, hi1'.other (by omega) _⟩, ⟨(Below.heap_setCell _ _ _ _ (by simp)).trans him, hi2.setCell (p := ⟨w.heap.size + 1, 0, none⟩) (by simp) _, by simp; omega⟩, rfl, HQ.out⟩
    · have hh : Maps.has reqD (.int .u8 k') = false := req_none hno
      have HQ := Lib.hid (HV.out false (by rw [HN.out, reqB_none hno, Bool.and_false]))
      clear hno
      by_cases hl12 : lv ≤ 12
      · gi_wp2_with (gi_at_lookup; refine wpListIn_lookup_own_ok _ rfl _ _ 62 rfl 5 69 (Maps.int_keyed Tryz.underlying5) Tryz.underlying62 fnElem (HZ.out _) .nil [] rfl _ _ _ rfl HO.out (.int .u8 k') (.int .u8 k') rfl (Maps.keyOf_int_mk Tryz.underlying5 HW.out) ?_; intro v ps hv; clear hv)
        refine ⟨fun _ h => (by cases h), ?_⟩
        gi_wp2
        exact ⟨(KeepsOthers.setCell _ _ _).from _, ⟨hi1.set _, hi1'.other (by omega) _⟩, ⟨(Below.heap_setCell _ _ _ _ (by simp)).trans him, hi2.setCell (p := ⟨w.heap.size + 1, 0, none⟩) (by simp) _, by simp; omega⟩, rfl, HQ.out⟩
      · gi_wp2_with (gi_at_lookup; refine wpListIn_lookup_own_ok _ rfl _ _ 62 rfl 5 69 (Maps.int_keyed Tryz.underlying5) Tryz.underlying62 fnElem (HZ.out _) .nil [] rfl _ _ _ rfl HO.out (.int .u8 k') (.int .u8 k') rfl (Maps.keyOf_int_mk Tryz.underlying5 HW.out) ?_; intro v ps hv; clear hv)
        refine ⟨fun _ h => (by cases h), ?_⟩
        gi_wp2
        exact ⟨(KeepsOthers.setCell _ _ _).from _, ⟨hi1.set _, hi1'.other (by omega) _⟩, ⟨(Below.heap_setCell _ _ _ _ (by simp)).trans him, hi2.setCell (p := ⟨w.heap.size + 1, 0, none⟩) (by simp) _, by simp; omega⟩, rfl, HQ.out⟩
  case done =>
    rintro D ys W hD hys ⟨⟨hbx, _⟩, ⟨_, hB, hz⟩, hall⟩ hK
    have hc := hbx.cell
    have hf := hbx.frozen
    have HE := Lib.hid (all_of_pre (p := nodeOkB) hys hall); clear hys hall
    have hK' := (KeepsOthers.setCell W ⟨w.heap.size + 1, 0, none⟩ (.bool true)).same D _ hK rfl
    have hc5 := cell_kept (World.cell?_setCell_same' W ⟨w.heap.size + 1, 0, none⟩ (.bool true) (by rw [hc]; rfl)) (grownBy_putObj' _ D (.deferred none)) (fun r e => by cases e; exact ⟨_, hK', rfl⟩)
    have HC := Lib.hid hc5; clear hc5
    gi_wp2
    refine ⟨by simp, .inl ⟨_, _, rfl, run_takeDeferred hK', ?_⟩⟩
    have hc5 := HC.out
    refine ⟨.bool true, ?_, by rw [HG.out, HE.out], ?_⟩
    · simp [results, Tryz.f14, go_sem, hc5]
    · exact (hB.setCell (p := ⟨w.heap.size + 1, 0, none⟩) (by simp) _).trans (belowK_b (w := w) (Nat.le_refl _) _ D _ _ (by omega) hK' rfl rfl)
  case stop =>
    rintro D c pre W hD hys ⟨⟨hbx, _⟩, ⟨_, hB, hz⟩, rfl, hall⟩ hK
    have hc := hbx.cell
    have hf := hbx.frozen
    have HE := Lib.hid (not_all_of_pre (p := nodeOkB) hys hall); clear hys hall
    have hc5 := cell_kept hc (grownBy_putObj' _ D (.deferred none)) (fun r e => by cases e; exact ⟨_, hK, rfl⟩)
    have HC := Lib.hid hc5; clear hc5
    gi_wp2
    refine ⟨by simp, .inl ⟨_, _, rfl, run_takeDeferred hK, ?_⟩⟩
    have hc5 := HC.out
    refine ⟨.bool false, ?_, by rw [HG.out, HE.out], ?_⟩
    · simp [results, Tryz.f14, go_sem, hc5]
    · exact hB.trans (belowK_b (w := w) (Nat.le_refl _) _ D _ _ (by omega) hK rfl rfl)

theorem valid_any (t : Tm) (c0 c1 c2 c3 : Value) (w : World) (ht : IsTm w.heap.size w c0 c1 c2 c3 t) (hdep : t.depth < 4611686018427387900) :
    Calls Tryz.prog 14 #[.agg #[c0, c1, c2, c3]] w fun e w' => e = .returned (.bool t.validB) ∧ Below w.heap.size w w' :=
  callsIn_wide.1 (valid_in t c0 c1 c2 c3 w ht hdep)
end Go.Proofs.YtnobmffgchlijaaGreatDoor
