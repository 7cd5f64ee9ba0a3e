/- Package term: the iterator over all subterms. -/
import Derived.RangeFuncNested
import Derived.RangeFuncBound
import Derived.RangeFuncCalls
import Derived.RangeFuncLeaves
import Derived.RangeFuncBox
import Derived.Shelf.Abstract
import Derived.Shelf.RegionOpen
import Derived.WalkKit
import Derived.OwnWalkIn
import Derived.TacticsInMore
import Derived.LoopNIn
import Derived.LoopIn
import Derived.Test.YtnobmffgchlijaaGreatDoorProg
import Derived.Test.YtnobmffgchlijaaGreatDoorTm
namespace Go.Proofs.YtnobmffgchlijaaGreatDoor
open Go.RowKit Go.Shelf
attribute [local go_sem] Oper.semAt_some

/-- A term with its level, held in four cells of a world. -/
structure Nd where
  c0 : Value
  c1 : Value
  c2 : Value
  c3 : Value
  t : Tm
  l : Nat
/-- Those that the world wt holds below n₀, at levels that fit. -/
abbrev NdIn (n₀ : Nat) (wt : World) : Type := { x : Nd // IsTm n₀ wt x.c0 x.c1 x.c2 x.c3 x.t ∧ x.l < 4611686018427387904 }
def NdIn.key {n₀ : Nat} {wt : World} (x : NdIn n₀ wt) : Tm × Nat := (x.1.t, x.1.l)
def NdIn.val {n₀ : Nat} {wt : World} (x : NdIn n₀ wt) : Value := .agg #[x.1.c0, x.1.c1, x.1.c2, x.1.c3, .int .i64 x.1.l]

/-- What a round keeps: all below n₀, and from n₁ on every block of cells. -/
def Kept (n₀ n₁ : Nat) (W W' : World) : Prop :=
  Below n₀ W W' ∧ ∀ b, n₁ ≤ b → ∀ cs t f, W.heap[b]? = some (.cells cs t f) → W'.heap[b]? = some (.cells cs t f)
theorem Kept.refl (n₀ n₁ : Nat) (W : World) : Kept n₀ n₁ W W := ⟨Below.refl _ _, fun _ _ _ _ _ h => h⟩
theorem Kept.trans {n₀ n₁ : Nat} {A B C : World} (h : Kept n₀ n₁ A B) (k : Kept n₀ n₁ B C) : Kept n₀ n₁ A C :=
  ⟨h.1.trans k.1, fun b hb cs t f hc => k.2 b hb cs t f (h.2 b hb cs t f hc)⟩
theorem Kept.alloc {n₀ n₁ : Nat} {A W : World} (h : Kept n₀ n₁ A W) (hn : n₀ ≤ W.heap.size) (o : Obj) : Kept n₀ n₁ A (W.alloc o) :=
  h.trans ⟨(Below.refl _ W).alloc hn o, fun _ _ _ _ _ hc => (Below.heap_alloc _ _ _ (Array.getElem?_eq_some_iff.1 hc).1).trans hc⟩
theorem Kept.setCell {n₀ n₁ : Nat} {A W : World} (h : Kept n₀ n₁ A W) {b : Nat} (hb : n₀ ≤ b) (hb1 : b < n₁) (o : Nat) (u : Value) : Kept n₀ n₁ A (W.setCell ⟨b, o, none⟩ u) :=
  h.trans ⟨(Below.refl _ W).setCell (p := ⟨b, o, none⟩) hb u, fun k hk cs t f hc => (Below.heap_setCell _ _ _ _ (by simp; omega)).trans hc⟩
theorem Kept.putObj {n₀ n₁ : Nat} {W : World} {l : Nat} {o : Obj} (o' : Obj) (hl : n₀ ≤ l) (hn : n₀ ≤ W.heap.size) (h : W.heap[l]? = some o) (hc : o.isCells = false) : Kept n₀ n₁ W (W.putObj l o') := by
  refine ⟨(Below.refl n₀ W).grown (grownBy_putObj' W l o') hn (fun k e => by cases e; omega), fun b _ cs t f hb => ?_⟩
  by_cases e : b = l
  · subst e; rw [hb] at h; cases h; cases hc
  · rw [World.putObj_heap_other e]; exact hb
theorem Kept.drew {n₀ n₁ : Nat} {A W : World} (h : Kept n₀ n₁ A W) : Kept n₀ n₁ A W.drew := h.trans ⟨(Below.refl _ W).drew, fun _ _ _ _ _ hc => hc⟩

theorem RoundIn.anyDepth {F : Fence} (hd : F.depth = none) {m m' : Nat} {P : Program} {l : Nat} {f : FuncId} {tmps : Array Value} {assign body : Code} {w : World} {R : Ending → World → Prop}
    (h : RoundIn F m P l f tmps assign body w R) : RoundIn F m' P l f tmps assign body w R := ⟨h.1, fun c cs _ => h.2 c cs (fun d h => by rw [hd] at h; cases h)⟩
theorem YieldAt.anyDepth {F : Fence} (hd : F.depth = none) {m : Nat} (m' : Nat) {P : Program} {l : Nat} {args : Array Value} {W : World} {R : Ending → World → Prop} (h : YieldAt F m P l args W R) : YieldAt F m' P l args W R := by
  obtain ⟨fn, tmps, assign, body, hy, hR⟩ := h
  exact ⟨fn, tmps, assign, body, hy, RoundIn.anyDepth hd hR⟩

theorem abides_alloc {β : Type} {B : Nat} {J : β → World → Prop} (h : AbidesFrom B J) {s : β} {W : World} (o : Obj) (hs : J s W) : J s (W.alloc o) :=
  h s W _ none hs (World.grownBy_alloc W o none) (fun r e => by cases e)

set_option maxRecDepth 100000 in
set_option maxHeartbeats 2000000 in
/-- The walk over a term's subterms hands each one to yield, in order, or stops where yield says so. -/
theorem walkIn_any (F : Fence) (hd : F.depth = none) (hw : F.fn 65) (hro : F.round = none) (l n₀ n₁ B0 N : Nat) (wt : World)
    (J Jx : List (NdIn n₀ wt) → World → Prop) (hJ : AbidesFrom B0 J) (hn : n₀ ≤ n₁)
    (hY : ∀ m pre (x : NdIn n₀ wt) W, J pre W → pre.length < N → YieldAt F m Tryz.prog l #[x.val] W fun e W' =>
      (e = .returned (.bool true) ∧ J (pre ++ [x]) W' ∧ Kept n₀ n₁ W W') ∨ (e = .returned (.bool false) ∧ Jx (pre ++ [x]) W')) (t : Tm) :
    ∀ (n : Nat) (c0 c1 c2 c3 : Value) (v : Nat) (pre : List (NdIn n₀ wt)) (W : World), IsTm n₀ wt c0 c1 c2 c3 t → Below n₀ wt W → n₁ ≤ W.heap.size → v + t.depth < 4611686018427387904 → pre.length + (t.nodes v).length ≤ N → J pre W →
      CallsIn F n Tryz.prog 65 #[.agg #[c0, c1, c2, c3, .int .i64 v], .func (.yield l) #[] #[]] W fun e W' =>
        (e = .returned (.bool true) ∧ (∃ ys : List (NdIn n₀ wt), ys.map NdIn.key = t.nodes v ∧ J (pre ++ ys) W') ∧ Kept n₀ n₁ W W') ∨
        (e = .returned (.bool false) ∧ ∃ ys : List (NdIn n₀ wt), ys.map NdIn.key <+: t.nodes v ∧ Jx (pre ++ ys) W') := by
  induction t using Tm.ind with
  | h k nn s args ih =>
    intro n c0 c1 c2 c3 v pre W ht hb h1 hv hN hJ0
    have hdd : ∀ k : Nat, (F.depth.isSome = true → 1 ≤ k) := fun k h => by rw [hd] at h; cases h
    simp only [Tm.depth] at hv
    have ht0 := ht
    have hv0 : v < 4611686018427387904 := by omega
    simp only [IsTm] at ht
    obtain ⟨rfl, hk, rfl, hnn, rfl, hs, a, cap, rfl, hl, hargs⟩ := ht
    have hyv := hY (n - 1) pre ⟨⟨.int .u8 k, .int .i64 nn, .string s, .slice a args.length cap, .mk k nn s args, v⟩, ht0, hv0⟩ _ (abides_alloc hJ (.cells #[.int .u8 k, .int .i64 nn, .string s, .slice a args.length cap, .int .i64 v] 68) hJ0) (by simp only [Tm.nodes, List.length_cons] at hN; omega)
    simp only [NdIn.val] at hyv
    obtain ⟨fn, tmps, assign, body, hy, hR⟩ := hyv
    refine callsIn_of_wp Tryz.func65 rfl hw ?_ hro
    simp only [Tryz.ntmps65, List.size_toArray, List.length_cons, List.length_nil, Nat.reduceAdd, Nat.reduceSub, Array.replicate_succ, Array.replicate_zero, List.push_toArray, List.append_toArray, List.nil_append, List.cons_append]
    have HR := Lib.hid (hR.mono (R' := fun e W2 => (e = .returned (.bool true) ∧ J (pre ++ [⟨⟨.int .u8 k, .int .i64 nn, .string s, .slice a args.length cap, .mk k nn s args, v⟩, ht0, hv0⟩]) W2 ∧ Kept n₀ n₁ W W2 ∧ W.heap.size < W2.heap.size ∧
        W2.heap[W.heap.size]? = some (.cells #[.int .u8 k, .int .i64 nn, .string s, .slice a args.length cap, .int .i64 v] 68 (0, 0)) ∧
        W2.cell? ⟨W.heap.size, 3, none⟩ = some (.slice a args.length cap)) ∨
      (e = .returned (.bool false) ∧ Jx (pre ++ [⟨⟨.int .u8 k, .int .i64 nn, .string s, .slice a args.length cap, .mk k nn s args, v⟩, ht0, hv0⟩]) W2)) (fun e W2 h => h.elim
        (fun ⟨he, hj, hk⟩ => .inl ⟨he, hj, ((Kept.refl _ _ W).alloc (by omega) _).trans hk, by have := hk.1.size; simp at this; omega, hk.2 _ h1 _ _ _ (World.alloc_heap_new W _), cells_at (hk.2 _ h1 _ _ _ (World.alloc_heap_new W _)) 3 _ rfl⟩) .inr))
    clear hR
    have HL := Lib.hid hl; clear hl
    gi_wp2_with (first | ((try refine ⟨hdd _, ?_⟩); refine HR.out.mono ?_; clear HR; rintro e W2 (⟨rfl, hJ2, hk2, hz2, hbx, q3⟩ | ⟨rfl, hx2⟩)))
    · gi_loopw [15] (fun i wr => ∃ (j : Nat) (ys : List (NdIn n₀ wt)), j ≤ args.length ∧ i = .int .i64 j ∧ ys.map NdIn.key = Tm.nodesL (v + 1) (args.take j) ∧
          J (pre ++ [⟨⟨.int .u8 k, .int .i64 nn, .string s, .slice a args.length cap, .mk k nn s args, v⟩, ht0, hv0⟩] ++ ys) wr ∧ Kept n₀ n₁ W wr ∧ W.heap.size < wr.heap.size ∧
          wr.heap[W.heap.size]? = some (.cells #[.int .u8 k, .int .i64 nn, .string s, .slice a args.length cap, .int .i64 v] 68 (0, 0)))
        (fun i _ => args.length - (intOf i).toNat)
      case atStart => exact ⟨0, [], Nat.zero_le _, rfl, by simp [Tm.nodesL], by simpa using hJ2, hk2, hz2, hbx⟩
      case round =>
        obtain ⟨j, ys, hj, rfl, hys, hJr, hkr, hzr, hbr⟩ := hrel
        have hm := HL.out
        unfold maxLen at hm
        by_cases hlt : j < args.length
        · obtain ⟨b, off, rfl, hbn, hIs⟩ := hargs (by intro e; rw [e] at hlt; simp at hlt)
          obtain ⟨d0, d1, d2, d3, e0, e1, e2, e3, hd4⟩ := hIs.at j hlt
          have hbw := hb.trans hkr.1
          have g0 := (hbw.cell (p := ⟨b, off + j * 4, none⟩) hbn).trans e0
          have g1 := (hbw.cell (p := ⟨b, off + j * 4 + 1, none⟩) hbn).trans e1
          have g2 := (hbw.cell (p := ⟨b, off + j * 4 + 2, none⟩) hbn).trans e2
          have g3 := (hbw.cell (p := ⟨b, off + j * 4 + 3, none⟩) hbn).trans e3
          have q4 := cells_at hbr 4 _ rfl
          clear e0 e1 e2 e3
          obtain ⟨k', n', s', as', hq⟩ : ∃ k' n' s' as', args[j] = .mk k' n' s' as' := by cases args[j]; exact ⟨_, _, _, _, rfl⟩
          rw [hq] at hd4
          have hmem : (.mk k' n' s' as' : Tm) ∈ args := by rw [← hq]; exact List.getElem_mem hlt
          have hdep := Tm.depthL_mem hmem
          have hd0 := hd4
          simp only [IsTm] at hd4
          obtain ⟨rfl, _, rfl, _, rfl, _, a', cap', rfl, _, _⟩ := hd4
          have hlen := congrArg List.length hys
          simp only [List.length_map] at hlen
          have hpf := (Tm.nodesL_prefix (v + 1) args j hlt (List.prefix_refl _)).length_le
          rw [hq] at hpf
          have hih := ih _ hmem (n - 1) _ _ _ _ (v + 1) _ _ hd0 ((hbw.alloc (by omega) (.cells #[.int .u8 k', .int .i64 n', .string s', .slice a' as'.length cap'] 32))) (by simp; omega) (by omega) (by simp only [Tm.nodes, List.length_cons, List.length_append, List.length_nil] at hN hpf ⊢; omega) (abides_alloc hJ _ hJr)
          rw [show ((v + 1 : Nat) : Int) = (v : Int) + 1 from by omega] at hih
          have HIH := Lib.hid hih
          have HQ := Lib.hid hq
          have HYS := Lib.hid hys
          clear hih hq ih hdep hys hlen hpf
          gi_wp2_with ((try refine ⟨hdd _, ?_⟩); gi_at_call 65; refine HIH.out.mono ?_; clear HIH; rintro e W3 (⟨rfl, ⟨zs, hzs, hJ3⟩, hk3⟩ | ⟨rfl, zs, hzs, hx3⟩))
          · go_roundw
            case rel =>
              refine ⟨j + 1, ys ++ zs, by omega, by go_num, ?_, by simpa [List.append_assoc] using hJ3, (hkr.alloc (by omega) _).trans hk3, by have := hk3.1.size; simp at this; omega,
                hk3.2 _ h1 _ _ _ ((Below.heap_alloc _ _ _ hzr).trans hbr)⟩
              rw [List.map_append, HYS.out, hzs, Tm.nodesL_snoc _ _ _ hlt, HQ.out]
            case measure => simp [intOf]; omega
          · go_ret
            refine .inr ⟨rfl, [⟨⟨.int .u8 k, .int .i64 nn, .string s, .slice (some ⟨b, off, none⟩) args.length cap, .mk k nn s args, v⟩, ht0, hv0⟩] ++ ys ++ zs, ?_, by simpa [List.append_assoc] using hx3⟩
            have hp := Tm.nodesL_prefix (v + 1) args j hlt (by rw [HQ.out]; exact hzs)
            rw [List.map_append, List.map_append, HYS.out, Tm.nodes]
            simp only [List.map_cons, List.map_nil, NdIn.key, List.cons_append, List.nil_append]
            obtain ⟨r, hr⟩ := hp
            exact ⟨r, by rw [← hr]; simp⟩
        · have HYS := Lib.hid hys; clear hys
          gi_wp2
          go_ret
          refine .inl ⟨rfl, ⟨[⟨⟨.int .u8 k, .int .i64 nn, .string s, .slice a args.length cap, .mk k nn s args, v⟩, ht0, hv0⟩] ++ ys, ?_, by simpa [List.append_assoc] using hJr⟩, hkr⟩
          have := HYS.out
          rw [List.take_of_length_le (by omega)] at this
          rw [List.map_append, this, Tm.nodes]
          simp only [List.map_cons, List.map_nil, NdIn.key, List.cons_append, List.nil_append]
    · go_ret
      refine .inr ⟨rfl, [_], ?_, hx2⟩
      simp only [List.map_cons, List.map_nil, Tm.nodes, NdIn.key]
      exact ⟨_, rfl⟩

set_option maxRecDepth 100000 in
set_option maxHeartbeats 1000000 in
/-- The function that subterms returns: all subterms in order, or those up to where the loop is left. -/
theorem subterms_stops (F : Fence) (hd : F.depth = none) (n : Nat) (hc : F.fn 64) (hw : F.fn 65) (hro : F.round = none) (Bt n₀ : Nat) (wt w : World) (t : Tm) (c0 c1 c2 c3 : Value)
    (hn : n₀ ≤ w.heap.size) (hb : Below n₀ wt w) (ht : IsTm n₀ wt c0 c1 c2 c3 t) (hdep : t.depth < 4611686018427387900)
    (hBt : w.heap[Bt]? = some (.cells #[c0, c1, c2, c3] 32 (0, 0))) :
    SeqStopsK F n Tryz.prog 64 #[.pointer (some ⟨Bt, 0, none⟩)] (fun x : NdIn n₀ wt => #[x.val]) (Kept n₀ w.heap.size) (fun ys => ys.map NdIn.key = t.nodes 1) (fun pre => pre.map NdIn.key <+: t.nodes 1) (t.nodes 1).length w := by
  intro l J Jx W hW hJ _ hY h0
  have hdd : ∀ k : Nat, (F.depth.isSome = true → 1 ≤ k) := fun k h => by rw [hd] at h; cases h
  have hlt : Bt < w.heap.size := (Array.getElem?_eq_some_iff.1 hBt).1
  have hBW := (hW.block Bt hlt).trans hBt
  have g0 := cells_at hBW 0 c0 rfl
  have g1 := cells_at hBW 1 c1 rfl
  have g2 := cells_at hBW 2 c2 rfl
  have g3 := cells_at hBW 3 c3 rfl
  have hp := walkIn_any F hd hw hro l n₀ w.heap.size W.heap.size (t.nodes 1).length wt J Jx hJ hn (fun m pre x W hj hl => YieldAt.anyDepth hd m (hY pre x W hj hl)) t (n - 1) c0 c1 c2 c3 1 [] W ht (hb.trans (hW.mono hn)) hW.size (by omega) (by simp) h0
  clear hBt hBW
  have HP := Lib.hid hp; clear hp
  refine callsIn_of_wp Tryz.func64 rfl hc ?_ hro
  simp only [Tryz.ntmps64, List.size_toArray, List.length_cons, List.length_nil, Nat.reduceAdd, Nat.reduceSub, Array.replicate_succ, Array.replicate_zero, List.push_toArray, List.append_toArray, List.nil_append, List.cons_append]
  gi_wp2_with ((try refine ⟨hdd _, ?_⟩); gi_at_call 65; refine HP.out.mono ?_; clear HP; rintro e W1 (⟨rfl, ⟨ys, hys, hJ1⟩, _⟩ | ⟨rfl, ys, hys, hx⟩))
  · go_end0
    exact ⟨⟨_, rfl⟩, .inl ⟨ys, hys, by simpa using hJ1⟩⟩
  · go_end0
    exact ⟨⟨_, rfl⟩, .inr ⟨ys, hys, by simpa using hx⟩⟩

set_option maxHeartbeats 1000000 in
/-- subterms boxes its argument and returns a function that captures the box. -/
theorem subterms_in (F : Fence) (n : Nat) (hf : F.fn 37) (hro : F.round = none) (c0 c1 c2 c3 : Value) (w : World) :
    CallsIn F n Tryz.prog 37 #[.agg #[c0, c1, c2, c3]] w fun e w' => e = .returned (.func (.func 64) #[] #[.pointer (some ⟨w.heap.size, 0, none⟩)]) ∧ w' = w.alloc (.cells #[c0, c1, c2, c3] 32) := by
  refine callsIn_of_wp Tryz.func37 rfl hf ?_ hro
  simp only [Tryz.ntmps37, List.size_toArray, List.length_cons, List.length_nil, Nat.reduceAdd, Nat.reduceSub, Array.replicate_succ, Array.replicate_zero, List.push_toArray, List.append_toArray, List.nil_append, List.cons_append]
  gi_wp2
  go_ret
  exact ⟨rfl, rfl⟩
end Go.Proofs.YtnobmffgchlijaaGreatDoor
