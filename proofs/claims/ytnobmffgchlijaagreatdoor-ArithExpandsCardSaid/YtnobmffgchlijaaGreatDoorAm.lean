/- Package arith: expandOperation. -/
import Derived.Test.YtnobmffgchlijaaGreatDoorAl
import Derived.Test.YtnobmffgchlijaaGreatDoorAj
import Derived.Test.YtnobmffgchlijaaGreatDoorAd
import Derived.Test.YtnobmffgchlijaaGreatDoorAn
import Derived.Test.YtnobmffgchlijaaGreatDoorIti
import Derived.Laws.EntriesVeiled
import Derived.WideLaws
namespace Go.Proofs.YtnobmffgchlijaaGreatDoor
open Go.RowKit Go.Shelf
attribute [local go_sem] Oper.semAt_some

theorem info_ints : (Tryz.prog.info? 22).map (fun i => (i.zero, i.size, i.bytes)) = some (some (.slice none 0 0), 1, 24) := by kernel_rfl

/-- A slice of numbers whose block is in a set. -/
def RowInI (ok : Nat → Prop) (w : World) (v : Value) (l : List Int) : Prop := ∃ (a : Option Addr) (cap : Nat), v = .slice a l.length cap ∧ l.length ≤ maxLen ∧ (l ≠ [] → ∃ b off, a = some ⟨b, off, none⟩ ∧ ok b ∧ ∀ j (hj : j < l.length), w.cell? ⟨b, off + j, none⟩ = some (.int .i64 l[j]))
theorem RowInI.keep {ok ok' : Nat → Prop} {w w' : World} (h : ∀ b, ok b → ok' b ∧ w'.heap[b]? = w.heap[b]?) {v : Value} {l : List Int} (hr : RowInI ok w v l) : RowInI ok' w' v l := by
  obtain ⟨a, cap, hv, hl, hr⟩ := hr
  refine ⟨a, cap, hv, hl, fun hne => ?_⟩
  obtain ⟨b, off, ha, hb, hi⟩ := hr hne
  exact ⟨b, off, ha, (h b hb).1, fun j hj => (cell_block (h b hb).2).trans (hi j hj)⟩
theorem Nums.rowIn {base : Nat} {w : World} {v : Value} {l : List Int} (h : Nums base w v l) : RowInI (fun b => base ≤ b ∧ b < w.heap.size) w v l := by
  have h0 := h
  obtain ⟨_, ⟨rfl, hn⟩ | ⟨g, cap, cur, rfl, hb, hg, hc, hm, _, _⟩⟩ := h
  · exact ⟨none, 0, by rw [hn], by rw [hn]; exact Nat.zero_le _, fun hne => absurd (List.length_eq_zero_iff.1 hn) hne⟩
  · refine ⟨some ⟨g, 0, none⟩, cap, rfl, Nat.le_trans hc hm, fun _ => ⟨g, 0, rfl, ⟨hb, (Array.getElem?_eq_some_iff.1 hg).1⟩, fun i hi => ?_⟩⟩
    have := h0.cells (g := g) rfl i (.int .i64 l[i]) (by simp [hi])
    have hadd : (⟨g, 0, none⟩ : Addr).add i = ⟨g, i, none⟩ := by unfold Addr.add; split <;> simp_all
    rwa [hadd, show (⟨g, i, none⟩ : Addr) = ⟨g, 0 + i, none⟩ from by rw [Nat.zero_add]] at this
theorem Nums.slice {base : Nat} {w : World} {v : Value} {l : List Int} (h : Nums base w v l) : ∃ a n c, v = .slice a n c := by
  rcases h.2 with ⟨rfl, _⟩ | ⟨g, cap, cur, rfl, _⟩
  · exact ⟨_, _, _, rfl⟩
  · exact ⟨_, _, _, rfl⟩

/-- A row of slices of numbers that the call owns; what they lead to is not the row. -/
def ListsI (base : Nat) (w : World) (v : Value) (ls : List (List Int)) : Prop :=
  ∃ vs : List Value, w.ownsRow base 22 1 v ls.length vs ∧ ∀ i (h : i < ls.length), ∃ u, vs[i]? = some u ∧ RowInI (fun b => base ≤ b ∧ b < w.heap.size ∧ v.ownBlock ≠ some b) w u ls[i]
theorem ListsI.nil (base : Nat) (w : World) : ListsI base w (.slice none 0 0) [] := ⟨[], World.ownsRow_nil _ _ _ _, fun i h => absurd h (by simp)⟩
theorem ListsI.grow {base : Nat} {w w' : World} {v : Value} {ls : List (List Int)} (h : ListsI base w v ls) (hb : Below w.heap.size w w') : ListsI base w' v ls := by
  obtain ⟨vs, ho, hr⟩ := h
  refine ⟨vs, own_grown ho hb, fun i hi => ?_⟩
  obtain ⟨u, hu, hR⟩ := hr i hi
  exact ⟨u, hu, hR.keep fun b hf => ⟨⟨hf.1, Nat.lt_of_lt_of_le hf.2.1 hb.size, hf.2.2⟩, hb.block b hf.2.1⟩⟩
theorem ListsI.app {base : Nat} {w w' : World} {v v' u : Value} {ls : List (List Int)} {vs : List Value} {ts : List Int} (ho : w.ownsRow base 22 1 v ls.length vs)
    (hr : ∀ i (h : i < ls.length), ∃ u, vs[i]? = some u ∧ RowInI (fun b => base ≤ b ∧ b < w.heap.size ∧ v.ownBlock ≠ some b) w u ls[i]) (hu : RowInI (fun b => base ≤ b ∧ b < w.heap.size ∧ v.ownBlock ≠ some b) w u ts)
    (hown : w'.ownsRow base 22 1 v' (ls.length + 1) (vs ++ [u])) (hg : w.grownBy w' v.ownBlock) (hat : v'.ownBlock = v.ownBlock ∨ v'.ownBlock = some w.heap.size) : ListsI base w' v' (ls ++ [ts]) := by
  have hk : ∀ b, (base ≤ b ∧ b < w.heap.size ∧ v.ownBlock ≠ some b) → (base ≤ b ∧ b < w'.heap.size ∧ v'.ownBlock ≠ some b) ∧ w'.heap[b]? = w.heap[b]? := fun b hf =>
    ⟨⟨hf.1, Nat.lt_of_lt_of_le hf.2.1 hg.size, by
      rcases hat with e | e <;> rw [e]
      · exact hf.2.2
      · intro e'; cases e'; exact absurd hf.2.1 (by omega)⟩, hg.block b hf.2.1 (fun e => hf.2.2 e.symm)⟩
  have hvl : vs.length = ls.length := by have := ho.1; omega
  refine ⟨vs ++ [u], by simpa using hown, fun i hi => ?_⟩
  by_cases h : i < ls.length
  · obtain ⟨x, hx, hR⟩ := hr i h
    refine ⟨x, by rw [List.getElem?_append_left (by omega)]; exact hx, ?_⟩
    rw [List.getElem_append_left h]
    exact hR.keep hk
  · have hi' : i = ls.length := by simp at hi; omega
    subst hi'
    refine ⟨u, by rw [← hvl]; simp, ?_⟩
    rw [List.getElem_append_right (Nat.le_refl _)]
    simpa using hu.keep hk


/-- The loop that expands the arguments. -/
def OpI (N : Nat) (w : World) (cs : Array Value) (args : List Tm) (v i : Value) (wr : World) : Prop :=
  ∃ (j : Nat) (ls : List (List Tm)), j ≤ args.length ∧ i = .int .i64 j ∧ Tm.expL (args.take j) = some ls ∧ ls.length = j ∧ ListsI N wr v (ls.map intsOf) ∧ Below N w wr ∧ wr.heap[N]? = some (.cells cs 32 (0, 0)) ∧ N + 1 ≤ wr.heap.size
/-- The arguments are expanded. -/
def OpK (N : Nat) (w : World) (cs : Array Value) (a : Option Addr) (cap : Nat) (args : List Tm) (a1 : Act) (wr : World) : Prop :=
  ∃ (ls : List (List Tm)) (v y5 y18 y19 y20 y21 y22 y23 y24 y25 y26 y27 : Value), Tm.expL args = some ls ∧ ls.length = args.length ∧ ListsI N wr v (ls.map intsOf) ∧ Below N w wr ∧ wr.heap[N]? = some (.cells cs 32 (0, 0)) ∧ N + 1 ≤ wr.heap.size ∧
    a1 = { tmps := #[.agg cs, .pointer (some ⟨N, 0, none⟩), .slice none 0 0, v, undef, y5, undef, undef, undef, undef, undef, undef, undef, undef, .pointer (some ⟨N, 3, none⟩), .slice a args.length cap, .int .i64 args.length, .int .i64 args.length, y18, y19, y20, y21, y22, y23, y24, y25, y26, y27,
      undef, undef, undef, undef, undef, undef, undef, undef, undef, undef, undef, undef, undef, undef, undef, undef, undef, undef, undef, undef, undef, undef, undef, undef, undef, undef, undef, undef, undef, undef, undef, undef, undef, undef, undef, undef, undef, undef, undef, undef, undef, undef, undef, undef, undef, undef], defers := [] }

theorem Vals.lower {ex : Option Nat} {B B' : Nat} {w : World} {v : Value} {ts : List Tm} (h : Vals ex B w v ts) (hB : B' ≤ B) : Vals ex B' w v ts := by
  obtain ⟨xs, ho, hh, hx⟩ := h
  exact ⟨xs, ownsRow_lower' ho hB, hh.keep fun b hf => ⟨⟨Nat.le_trans hB hf.1, hf.2⟩, rfl⟩, hx⟩
theorem own_slice {w : World} {base k size : Nat} {e : TypeId} {v : Value} {xs : List Value} (h : w.ownsRow base e size v k xs) : ∃ a n c, v = .slice a n c := by
  rcases h.2 with ⟨rfl, _⟩ | ⟨g, cap, cur, rfl, _⟩
  · exact ⟨_, _, _, rfl⟩
  · exact ⟨_, _, _, rfl⟩
/-- The loop over the choices. -/
def OpL (N M q : Nat) (o : Ar) (w W0 : World) (ok : Nat → Prop) (_ : Option Nat) (pre : List (List Int)) (W : World) : Prop :=
  SetI W M (resOf o pre) ∧ Boxed W (M + 1) 93 (.map (some M)) ∧ Boxed W q 54 (.func (.func (fnAr o)) #[] #[]) ∧ Below N w W ∧ KeepOk ok W0 W ∧ W0.heap.size ≤ W.heap.size ∧ (resOf o pre).length ≤ 1000
theorem OpL.own {N M q : Nat} {o : Ar} {w W0 : World} {ok : Nat → Prop} (hN : N ≤ w.heap.size) (hN0 : N ≤ W0.heap.size) (hok : ∀ b, ok b → b < W0.heap.size) (hM : M + 1 < W0.heap.size) (hq : q < W0.heap.size) (op : Option Nat) : OwnFrom W0.heap.size (OpL N M q o w W0 ok op) := by
  rintro pre A B row ⟨h1, h2, h3, h4, h5, h6, h7⟩ hg hr
  have hne : ∀ k, k < W0.heap.size → some k ≠ row := fun k hk e => by have := (hr k e.symm).1; omega
  exact ⟨h1.kept hg (hne _ (by omega)), h2.kept hg (hne _ hM), h3.kept hg (hne _ hq), ownFrom_below hN hN0 pre A B row h4 hg hr, fun b hb => (hg.block b (Nat.lt_of_lt_of_le (hok b hb) h6) (hne _ (hok b hb)).symm.symm).trans (h5 b hb), Nat.le_trans h6 hg.size, h7⟩
theorem OpL.bears {N M q : Nat} {o : Ar} {w W0 : World} {ok : Nat → Prop} (hN0 : N ≤ W0.heap.size) (hok : ∀ b, ok b → b < W0.heap.size) (hM : M + 1 < W0.heap.size) (hq : q < W0.heap.size) (g : Nat) (hg0 : W0.heap.size ≤ g) : BearsO (AbE g) (OpL N M q o w W0 ok (some g)) := by
  rintro pre A B ⟨h1, h2, h3, h4, h5, h6, h7⟩ hg
  exact ⟨h1.kept hg (by simp; omega), h2.kept hg (by simp; omega), h3.kept hg (by simp; omega), h4.grown hg (by omega) (fun k e => by cases e; omega), h5.grown hg (fun h => by have := hok _ h; omega) (fun b hb => Nat.lt_of_lt_of_le (hok b hb) h6), Nat.le_trans h6 hg.size, h7⟩

/-- What each slot stands for, ahead of the store of the operation. -/
def FnT (H N : Nat) (s : ByteArray) (a : Option Addr) (k cap : Nat) (o : Ar) : Facts := fun i v w => match i with
  | 0 => ∃ M, v = .map (some M) ∧ H ≤ M ∧ OpsMap w M
  | 1 => v = .pointer (some ⟨N, 2, none⟩)
  | 2 => v = .string s
  | 3 => v = .pointer (some ⟨N, 3, none⟩)
  | 4 => v = .slice a k cap
  | 5 => v = .int .i64 k
  | 6 => v = .agg #[.string s, .int .i64 k]
  | 7 => v = .func (.func (fnAr o)) #[] #[]
  | 8 => ∃ q, v = .pointer (some ⟨q, 0, none⟩) ∧ H ≤ q ∧ w.heap[q]? = some (.cells #[.nilFunc] 54 (0, 0))
  | _ => True
theorem FnT_grow (H N : Nat) (s : ByteArray) (a : Option Addr) (k cap : Nat) (o : Ar) (i : Nat) (v : Value) (w w' : World) (h : FnT H N s a k cap o i v w) (hb : Below w.heap.size w w') : FnT H N s a k cap o i v w' := by
  match i with
  | 1 | 2 | 3 | 4 | 5 | 6 | 7 => exact h
  | 0 =>
    obtain ⟨M, h1, h2, h3⟩ := h
    exact ⟨M, h1, h2, ops_grow h3 hb⟩
  | 8 =>
    obtain ⟨q, h1, h2, h3⟩ := h
    exact ⟨q, h1, h2, (hb.block q (Array.getElem?_eq_some_iff.1 h3).1).trans h3⟩
  | i + 9 => trivial

set_option maxRecDepth 100000 in
set_option maxHeartbeats 400000000 in
theorem operation_any (n : Int) (s : ByteArray) (args : List Tm) (IH : ∀ u ∈ args, ExpAt u) (c0 c1 c2 c3 : Value) (w : World) (h : IsTm w.heap.size w c0 c1 c2 c3 (.mk 5 n s args)) (hw : (Tm.mk 5 n s args).Wf) :
    Calls Tryz.prog 67 #[.agg #[c0, c1, c2, c3]] w (ExpPost (.mk 5 n s args) w) := by
  simp only [IsTm] at h
  obtain ⟨rfl, _, rfl, hn, rfl, hss, a, cap, rfl, hl, ha⟩ := h
  simp only [Tm.Wf] at hw
  obtain ⟨hw8, _, hw4, _, _, hwL⟩ := hw
  have HA := Lib.hid ha
  have HIH := Lib.hid IH
  have HWL := Lib.hid hwL
  have HW4 := Lib.hid (hw4 trivial)
  clear ha IH hwL hw4
  refine callsIn_wide.1 (calls_on (n := 0) Tryz.func67 rfl fun b hbf hbk hbr => ?_)
  simp only [Tryz.ntmps67, List.size_toArray, List.length_cons, List.length_nil, Nat.reduceAdd, Nat.reduceSub, Array.replicate_succ, Array.replicate_zero, List.push_toArray, List.append_toArray, List.nil_append, List.cons_append]
  refine wpOn_seq (wpOn_of (n := 0) hbr ?_)
  gi_wp2
  refine wpOn_seq (wpOn_of (n := 0) hbr ?_)
  gi_wp2
  refine wpOn_seq' (OpK w.heap.size w #[.int .u8 5, .int .i64 n, .string s, .slice a args.length cap] a cap args) ?rest (wpOn_of (n := 0) hbr ?_)
  case rest =>
    rintro a1 wr ⟨ls, v, y5, y18, y19, y20, y21, y22, y23, y24, y25, y26, y27, hE, hll, hLs, hB, hb, hz, rfl⟩
    obtain ⟨o, ho⟩ := HW4.out
    have mixed : Tryz.prog.follows .mixedOrders = true := by kernel_rfl
    refine wpOn_seq (wpOn_of (n := 0) hbr ?_)
    refine wpIn_region_head mixed 9 (FnT wr.heap.size w.heap.size s a args.length cap o) (FnT_grow _ _ _ _ _ _ _) (by kernel_rfl) (by kernel_rfl) (steps_in ⟨?_, ?_, ?_, ?_, ?_, ?_, ?_, ?_, ?_, trivial⟩) ?_
    · intro a2 wx hb2 hd hs ho2 hp
      refine ⟨rfl, ?_⟩
      unfold Oper.wpIn
      refine ⟨fun _ _ => trivial, ?_⟩
      go_simp
      refine ⟨rfl, (callsIn_wide.2 (operations_any wx)).mono ?_⟩
      rintro e w2 ⟨rfl, h1, h2⟩
      exact Stepped.at (v := .map (some wx.heap.size)) rfl hd h2 ⟨_, rfl, hb2.size, h1⟩
    · intro a2 wx hb2 hd hs ho2 hp
      refine ⟨rfl, ?_⟩
      have q1 : a2.tmps.getD 1 undef = _ := (ho2 1 (by kernel_rfl)).trans rfl
      unfold Oper.wpIn
      refine ⟨fun _ _ => trivial, ?_⟩
      go_simp
      exact Stepped.at rfl hd (Below.refl _ _) rfl
    · intro a2 wx hb2 hd hs ho2 hp
      refine ⟨rfl, ?_⟩
      have q29 : a2.tmps.getD 29 undef = .pointer (some ⟨w.heap.size, 2, none⟩) := facts_at hp 1 29 (by kernel_rfl)
      have x0 := cells_at ((hb2.block w.heap.size (by omega)).trans hb) 2 _ rfl
      unfold Oper.wpIn
      refine ⟨fun _ _ => trivial, ?_⟩
      go_simp
      exact Stepped.at rfl hd (Below.refl _ _) rfl
    · intro a2 wx hb2 hd hs ho2 hp
      refine ⟨rfl, ?_⟩
      have q1 : a2.tmps.getD 1 undef = _ := (ho2 1 (by kernel_rfl)).trans rfl
      unfold Oper.wpIn
      refine ⟨fun _ _ => trivial, ?_⟩
      go_simp
      exact Stepped.at rfl hd (Below.refl _ _) rfl
    · intro a2 wx hb2 hd hs ho2 hp
      refine ⟨rfl, ?_⟩
      have q31 : a2.tmps.getD 31 undef = .pointer (some ⟨w.heap.size, 3, none⟩) := facts_at hp 3 31 (by kernel_rfl)
      have x0 := cells_at ((hb2.block w.heap.size (by omega)).trans hb) 3 _ rfl
      unfold Oper.wpIn
      refine ⟨fun _ _ => trivial, ?_⟩
      go_simp
      exact Stepped.at rfl hd (Below.refl _ _) rfl
    · intro a2 wx hb2 hd hs ho2 hp
      refine ⟨rfl, ?_⟩
      have q32 : a2.tmps.getD 32 undef = .slice a args.length cap := facts_at hp 4 32 (by kernel_rfl)
      unfold Oper.wpIn
      refine ⟨fun _ _ => trivial, ?_⟩
      go_simp
      exact Stepped.at rfl hd (Below.refl _ _) rfl
    · intro a2 wx hb2 hd hs ho2 hp
      refine ⟨rfl, ?_⟩
      have q30 : a2.tmps.getD 30 undef = .string s := facts_at hp 2 30 (by kernel_rfl)
      have q33 : a2.tmps.getD 33 undef = .int .i64 args.length := facts_at hp 5 33 (by kernel_rfl)
      have s30 := qslot_of (hs.trans (show _ = 74 from rfl)) (by decide) q30
      have s33 := qslot_of (hs.trans (show _ = 74 from rfl)) (by decide) q33
      unfold Oper.wpIn
      refine ⟨fun _ _ => trivial, ?_⟩
      go_simp
      exact Stepped.at (v := .agg #[.string s, .int .i64 args.length]) rfl hd (Below.refl _ _) rfl
    · intro a2 wx hb2 hd hs ho2 hp
      refine ⟨rfl, ?_⟩
      obtain ⟨M, q28, hM, hOps⟩ : FnT wr.heap.size w.heap.size s a args.length cap o 0 (a2.tmps.getD 28 undef) wx := facts_at hp 0 28 (by kernel_rfl)
      have q34 : a2.tmps.getD 34 undef = .agg #[.string s, .int .i64 args.length] := facts_at hp 6 34 (by kernel_rfl)
      have hrun := ops_get hOps hss hl ho
      unfold Oper.wpIn
      refine ⟨fun _ _ => trivial, ?_⟩
      go_simp
      exact Stepped.at (v := .func (.func (fnAr o)) #[] #[]) rfl hd (Below.refl _ _) rfl
    · intro a2 wx hb2 hd hs ho2 hp
      refine ⟨rfl, ?_⟩
      unfold Oper.wpIn
      refine ⟨fun _ _ => trivial, ?_⟩
      go_simp
      exact Stepped.at (v := .pointer (some ⟨wx.heap.size, 0, none⟩)) rfl hd ((Below.refl _ _).alloc (Nat.le_refl _) _) ⟨wx.heap.size, rfl, hb2.size, World.alloc_heap_new _ _⟩
    intro m' a2 wx hb2 hd hs ho2 hf
    have k35 : a2.tmps.getD 35 undef = .func (.func (fnAr o)) #[] #[] := facts_to hf 7 35 (by decide) (by kernel_rfl)
    obtain ⟨q, k6, hq1, hq2⟩ : FnT wr.heap.size w.heap.size s a args.length cap o 8 (a2.tmps.getD 6 undef) wx := facts_to hf 8 6 (by decide) (by kernel_rfl)
    have k3 : a2.tmps.getD 3 undef = v := (ho2 3 (by kernel_rfl)).trans rfl
    clear hf
    obtain ⟨T, D⟩ := a2
    simp only at hd hs k35 k6 k3
    subst hd
    have hE2 := slots_all T 74 (hs.trans rfl)
    simp only [List.range, List.range.loop, List.map, k35, k6, k3] at hE2
    rw [hE2]
    clear hE2 k35 k6 k3 ho2 hs
    have hBq : Boxed wx q 54 .nilFunc := hq2
    have cq := hBq.cell
    have fq := hBq.frozen
    refine any_one (i := 9) (by kernel_rfl) rfl ?_
    gi_wp2
    refine wpAnyIn_done (by kernel_rfl) ?_ _
    have zq := (Array.getElem?_eq_some_iff.1 hq2).1
    obtain ⟨W1, hW1⟩ : ∃ W1, wx.setCell ⟨q, 0, none⟩ (.func (.func (fnAr o)) #[] #[]) = W1 := ⟨_, rfl⟩
    have hBQ : Boxed W1 q 54 (.func (.func (fnAr o)) #[] #[]) := by rw [← hW1]; exact hBq.set _
    have hb3 : Below wr.heap.size wr W1 := by rw [← hW1]; exact hb2.setCell (p := ⟨q, 0, none⟩) hq1 _
    have z1 : W1.heap.size = wx.heap.size := by rw [← hW1]; simp [World.setCell]
    rw [hW1]
    clear hW1 hBq cq fq hq2 hb2
    have hmm := @run_makeMap Tryz.prog
    refine wpOn_seq (wpOn_of (n := 0) hbr ?_)
    gi_wp2
    have hls1 : 1 ≤ ls.length := by
      have := arOf_arity ho
      rw [hll, this]; cases o <;> simp [Ar.arity]
    have hA3 : Below wr.heap.size wr (((W1.alloc (.map #[] 0)).alloc (.cells #[.map (some wx.heap.size)] 93)).alloc (.cells #[v] 91)) := ((hb3.alloc (by have := hb3.size; omega) _).alloc (by have := hb3.size; simp; omega) _).alloc (by have := hb3.size; simp; omega) _
    have hLG := hLs.grow hA3
    obtain ⟨W0, hW0⟩ : ∃ W0, ((W1.alloc (.map #[] 0)).alloc (.cells #[.map (some wx.heap.size)] 93)).alloc (.cells #[v] 91) = W0 := ⟨_, rfl⟩
    have hsz : W0.heap.size = wx.heap.size + 3 := by rw [← hW0]; simp; omega
    have hS0 : SetI W0 wx.heap.size [] := by
      rw [← hW0, ← z1]; exact ((SetI.made W1).kept (World.grownBy_alloc _ _ none) (by simp)).kept (World.grownBy_alloc _ _ none) (by simp)
    have hB7 : Boxed W0 (wx.heap.size + 1) 93 (.map (some wx.heap.size)) := by
      rw [← hW0]; have := Boxed.new (W1.alloc (.map #[] 0)) 93 (.map (some wx.heap.size)); rw [World.size_alloc, z1] at this; exact this.alloc _
    have hBc : W0.heap[wx.heap.size + 1 + 1]? = some (.cells #[v] 91 (0, 0)) := by
      rw [← hW0]; have := World.alloc_heap_new ((W1.alloc (.map #[] 0)).alloc (.cells #[.map (some wx.heap.size)] 93)) (.cells #[v] 91); rwa [World.size_alloc, World.size_alloc, z1] at this
    have hQ0 : Boxed W0 q 54 (.func (.func (fnAr o)) #[] #[]) := by rw [← hW0]; exact ((hBQ.alloc _).alloc _).alloc _
    rw [hW0] at hA3
    rw [hW0] at hLG
    obtain ⟨vs, hown, hrows⟩ := hLs
    obtain ⟨bL, capL, rfl⟩ : ∃ bL capL, v = .slice (some ⟨bL, 0, none⟩) ls.length capL := by
      rcases hown.2 with ⟨_, h0⟩ | ⟨g, cap, cur, h1, _⟩
      · rw [List.length_map] at h0; omega
      · rw [List.length_map] at h1; exact ⟨g, cap, h1⟩
    have hbL := hown.lt bL rfl
    have zr := hb3.size
    obtain ⟨ok, hok⟩ : ∃ ok : Nat → Prop, ok = fun b => w.heap.size ≤ b ∧ b < wr.heap.size := ⟨_, rfl⟩
    have hRows : RowsI ok W0 bL (ls.map intsOf) := by
      refine ⟨by rw [hok]; exact ⟨hbL.1, hbL.2⟩, fun i hi => ?_⟩
      obtain ⟨u, hu, a', cap', rfl, h2, h3⟩ := hrows i hi
      have := (own_grown hown hA3).cells (g := bL) rfl i _ hu
      have hadd : (⟨bL, 0, none⟩ : Addr).add i = ⟨bL, i, none⟩ := by unfold Addr.add; split <;> simp_all
      rw [hadd] at this
      refine ⟨a', cap', this, h2, fun hne => ?_⟩
      obtain ⟨b, off, ha, hb', hj⟩ := h3 hne
      exact ⟨b, off, ha, by rw [hok]; exact ⟨hb'.1, hb'.2.1⟩, fun j hj' => (cell_block (hA3.block b hb'.2.1)).trans (hj j hj')⟩
    refine wpOn_seq (wpOn_seq (wpOn_of (n := 0) hbr ?_))
    gi_wp2_with (first | (refine ⟨trivial, rfl, ?_⟩; gi_at_call 81; refine (callsIn_wide.2 (combosI_any _ _ _ _)).mono ?_; rintro e w' ⟨rfl, rfl⟩))
    rw [hll] at hW0
    rw [hW0]
    have hLa : (ls.map intsOf).length = args.length := by rw [List.length_map, hll]
    rw [hll] at hBc
    rw [← hLa] at hBc
    have hokl : ∀ b, ok b → b < W0.heap.size := fun b hb => by rw [hok] at hb; have := hb.2; omega
    have hN0 : w.heap.size ≤ W0.heap.size := by omega
    clear hW0 hLG hrows hown
    refine wpOn_block (range_on (fn := Tryz.f67) (by rw [hbf]; exact Tryz.func67) hbr (gf := 95) (lb := #[.pointer (some ⟨wx.heap.size + 1 + 1, 0, none⟩)]) rfl (enters_of Tryz.func95 (by kernel_rfl) rfl)
      (n := 0) (combosI_seq (ls.map intsOf) (by omega) bL capL (wx.heap.size + 1 + 1) 0 W0 hokl hRows hBc) ?hAb ?hKt ?hKb ?hC (fun _ _ => rfl)
      (OpL w.heap.size wx.heap.size q o w W0 ok) (fun ch W => ch = boom ∧ 1000 < (resultsI o (ls.map intsOf)).length ∧ Below w.heap.size w W) (OpL.own (Nat.le_refl _) hN0 hokl (by omega) (by omega)) (fun g hg => OpL.bears hN0 hokl (by omega) (by omega) g hg) ?h0 ?hst
      (fun g a' _ => a' = { tmps := #[T[0]?.getD undef, T[1]?.getD undef, T[2]?.getD undef, .slice (some ⟨bL, 0, none⟩) args.length capL, T[4]?.getD undef, T[5]?.getD undef, .pointer (some ⟨q, 0, none⟩), .pointer (some ⟨wx.heap.size + 1, 0, none⟩), .slice (some ⟨g, 0, none⟩) args.length args.length, T[9]?.getD undef, T[10]?.getD undef, T[11]?.getD undef, T[12]?.getD undef, T[13]?.getD undef, T[14]?.getD undef, T[15]?.getD undef, T[16]?.getD undef, T[17]?.getD undef, T[18]?.getD undef, T[19]?.getD undef, T[20]?.getD undef, T[21]?.getD undef, T[22]?.getD undef, T[23]?.getD undef, T[24]?.getD undef, T[25]?.getD undef, T[26]?.getD undef, T[27]?.getD undef, T[28]?.getD undef, T[29]?.getD undef, T[30]?.getD undef, T[31]?.getD undef, T[32]?.getD undef, T[33]?.getD undef, T[34]?.getD undef, .func (.func (fnAr o)) #[] #[], .map (some wx.heap.size), .slice (some ⟨bL, 0, none⟩) args.length capL, .func (.func 95) #[] #[.pointer (some ⟨wx.heap.size + 1 + 1, 0, none⟩)], .slice (some ⟨g, 0, none⟩) args.length args.length, T[40]?.getD undef, T[41]?.getD undef, T[42]?.getD undef, T[43]?.getD undef, T[44]?.getD undef, T[45]?.getD undef, T[46]?.getD undef, T[47]?.getD undef, T[48]?.getD undef, T[49]?.getD undef, T[50]?.getD undef, T[51]?.getD undef, T[52]?.getD undef, T[53]?.getD undef, T[54]?.getD undef, T[55]?.getD undef, T[56]?.getD undef, T[57]?.getD undef, T[58]?.getD undef, T[59]?.getD undef, T[60]?.getD undef, T[61]?.getD undef, T[62]?.getD undef, T[63]?.getD undef, T[64]?.getD undef, T[65]?.getD undef, T[66]?.getD undef, T[67]?.getD undef, T[68]?.getD undef, T[69]?.getD undef, T[70]?.getD undef, T[71]?.getD undef, T[72]?.getD undef, T[73]?.getD undef], defers := [] })
      (fun g a' => ownFrom_pure _ fun _ => _) ?hassign ?hbody ?hdone ?hpan)
    case hAb => exact fun g A B l o hlg hg hl _ => (hg.block l (Array.getElem?_eq_some_iff.1 hl).1 (fun e => by cases e; exact hlg rfl)).trans hl
    case hKt => exact fun g A B C h k => ⟨h.1.trans k.1, Nat.le_trans h.2.1 k.2.1, k.2.2.trans h.2.2⟩
    case hKb => exact fun g x W l o o' hl hlg _ _ => ⟨fun b hb => World.putObj_heap_other (by have := hokl b hb; omega), by simp, World.putObj_heap_other (by omega)⟩
    case hC =>
      intro g x W l o o' hc hl ho
      refine hc.block (World.putObj_heap_other fun e => ?_)
      subst e
      rcases hc.2 with ⟨h1, _⟩ | ⟨g', cap', cur, h1, _, h2, _⟩
      · cases h1
      · simp only [Value.slice.injEq, Option.some.injEq, Addr.mk.injEq, and_true, true_and] at h1
        obtain ⟨rfl, _⟩ := h1
        rw [hl] at h2; cases h2; cases ho
    case h0 => exact ⟨hS0, hB7, hQ0, hB.trans (hA3.mono hB.size), KeepOk.refl _ _, Nat.le_refl _, Nat.zero_le _⟩
    case hst =>
      rintro g W W2 hW0 ⟨h1, h2, h3, h4, h5, h6, h7⟩ hg hg2 hb
      have hgb : W.grownBy W2 none := ⟨hb.os, hb.tape, hb.output, hb.size, fun k hk _ => hb.block k hk⟩
      exact ⟨h1.kept hgb (by simp), h2.kept hgb (by simp), h3.kept hgb (by simp), h4.trans (hb.mono (by omega)), h5.trans fun b hb' => hb.block b (Nat.lt_of_lt_of_le (hokl b hb') h6), Nat.le_trans h6 hb.size, h7⟩
    case hassign =>
      intro m l g pre x W K hg hi hc hK
      have HK := Lib.hid (hK _ W (KeepsOthers.refl _ |>.from _) ⟨KeepOk.refl _ _, Nat.le_refl _, rfl⟩ hi hc rfl)
      clear hK
      gi_wp2
      exact HK.out
    case hpan =>
      rintro D ch W hD ⟨rfl, h1, h2⟩ hK
      refine ⟨by simp, .inl ⟨_, _, rfl, run_takeDeferred hK, ?_⟩⟩
      refine .inr ⟨?_, rfl, h2.trans (belowK_b (w := w) (Nat.le_refl _) W D _ (.deferred none) (by omega) hK rfl rfl)⟩
      rw [Tm.exp_op, hE, Option.bind_some, ho]
      exact if_neg (by omega)
    case hdone =>
      rintro D op W hD ⟨h1, h2, h3, h4, h5, h6, h7⟩ hK
      rw [resOf_all] at h1 h7
      have c7 := h2.cell
      obtain ⟨Dm, hm1, hm2, hm3⟩ := h1.keys
      have HKY := Lib.hid (callsIn_wide.1 (Tryz.maps_Keys_I (some wx.heap.size) W))
      have HSO := Lib.hid (callsIn_wide.1 (Tryz.slices_Sorted_I wx.heap.size _ Dm _ W hm1 (by rw [hm2]; unfold maxLen; omega) (by rw [hm2]; omega)))
      have HM3 := Lib.hid hm3
      have H4 := Lib.hid h4
      have HK := Lib.hid hK
      have HE := Lib.hid (show (Tm.mk 5 n s args).exp = some ((sortI (resultsI o (ls.map intsOf))).map numT) by
        rw [Tm.exp_op, hE, Option.bind_some, ho]; exact if_pos h7)
      clear h1 h2 h3 h4 h5 hm1 hm3 hK
      refine wpOn_of (n := 0) hbr ?_
      gi_wp2_with (first | (refine ⟨trivial, rfl, ?_⟩; gi_at_call 83; refine (callsIn_wide.2 HKY.out).mono ?_; clear HKY; rintro e w' ⟨rfl, rfl⟩) | (refine ⟨trivial, rfl, ?_⟩; gi_at_call 82; refine (callsIn_wide.2 HSO.out).mono ?_; clear HSO; rintro e W2 ⟨v2, ss, rfl, hp2, hrow, _, hb2⟩; obtain ⟨a2, n2, c2, rfl⟩ := own_slice hrow))
      obtain ⟨hL, hsl⟩ := HM3.out ss hp2
      rw [hL] at hrow
      obtain ⟨L, hLd⟩ : ∃ L, sortI (resultsI o (ls.map intsOf)) = L := ⟨_, rfl⟩
      have hLl : L.length = ss.length := by rw [← hLd, sortI_length]; exact hsl.symm
      have hLr : ∀ x ∈ L, I64 x := fun x hx => by
        rw [← hLd] at hx
        have hx := (List.mem_mergeSort (le := fun x y => decide (x ≤ y))).1 hx
        obtain ⟨c, _, hc⟩ := resultsI_mem.1 hx
        have hy := applyI_range hc
        unfold I64 Lit.wf
        simp only [Bool.and_eq_true, decide_eq_true_eq]
        exact ⟨by show -9223372036854775808 ≤ x; omega, by show x ≤ 9223372036854775807; omega⟩
      rw [hLd, ← hLl] at hrow
      rw [hLd] at HE
      have hL7 : L.length ≤ 1000 := by rw [hLl, hsl]; exact h7
      have hIV := Nums.intV (l := L) hrow
      obtain ⟨a3, cap3, e3, _, hcs⟩ := hIV
      cases e3
      have HCS := Lib.hid hcs
      have HLR := Lib.hid hLr
      have HB2 := Lib.hid hb2
      clear hcs hb2 hrow hL hp2 HM3 hLd hLr hLl hsl
      gi_loopw [11, 63] (fun v11 i wl => ∃ j : Nat, j ≤ L.length ∧ i = .int .i64 j ∧ Vals none W2.heap.size wl v11 ((L.take j).map numT) ∧ Below W2.heap.size W2 wl) (fun _ i _ => L.length - (intOf i).toNat)
      case atStart => exact ⟨0, Nat.zero_le _, rfl, Vals.nil _ _ _, Below.refl _ _⟩
      case round =>
        obtain ⟨j, hj, rfl, hV, hBl⟩ := hrel
        have HBL := Lib.hid hBl
        by_cases hlt : j < L.length
        · obtain ⟨bk, off, rfl, hbk, hci⟩ := HCS.out (by intro e; rw [e] at hlt; simp at hlt)
          have g0 := (hBl.cell (p := ⟨bk, off + j, none⟩) (by show bk < _; omega)).trans (hci j hlt)
          obtain ⟨x, hx⟩ : ∃ x, L[j] = x := ⟨_, rfl⟩
          rw [hx] at g0
          have hxI : I64 x := by rw [← hx]; exact HLR.out _ (List.getElem_mem hlt)
          obtain ⟨xs, hO, hH, _⟩ := hV
          have HO := Lib.hid hO
          have HH := Lib.hid hH
          have HT := Lib.hid (show (L.take (j + 1)).map numT = (L.take j).map numT ++ [numT x] by rw [List.take_succ_eq_append_getElem hlt, List.map_append, hx]; rfl)
          have htl : ((L.take j).map numT).length = j := by simp; omega
          obtain ⟨TS, hTS⟩ : ∃ TS, (L.take j).map numT = TS := ⟨_, rfl⟩
          rw [hTS] at htl HT HO HH
          clear hTS
          obtain ⟨i0, hi, hz0, hz1, hz2⟩ := info_parts info_term
          have i1 : (0 : Int) ≤ (j : Int) := by omega
          have i2 : (j : Int) < (L.length : Int) := by omega
          clear hci hO hH hx hBl
          gi_wp2_with (first | (refine ⟨trivial, rfl, ?_⟩; gi_at_call 84; refine (callsIn_wide.2 (integer_any x _)).mono ?_; rintro e W3 ⟨rfl, hb3⟩) | (gi_at_builtin; refine wpListIn_append_own_at _ rfl _ _ 30 rfl W2.heap.size 32 i0 _ 4 56 Tryz.underlying30 hi hz0 hz1 hz2 rfl (by decide) u11 TS.length xs rfl ?c0 _ 1 1 [.int .u8 1, .int .i64 x, .string ⟨#[]⟩, .slice none 0 0] rfl rfl ?c1 ?c2 ?c3 ?c4 ?c5 ?_))
          case c2 => simp [Value.oneCell']
          case c3 => unfold maxLen; omega
          case c4 => omega
          case c5 => have := HBL.out.size; have := hb3.size; simp; omega
          case c1 =>
            intro jj u' hu'
            have hn := World.alloc_heap_new W3 (.cells #[.int .u8 1, .int .i64 x, .string ⟨#[]⟩, .slice none 0 0] 32)
            rcases jj with _ | _ | _ | _ | jj
            · cases hu'; exact cells_at hn 0 _ rfl
            · cases hu'; exact cells_at hn 1 _ rfl
            · cases hu'; exact cells_at hn 2 _ rfl
            · cases hu'; exact cells_at hn 3 _ rfl
            · simp at hu'
          case c0 => exact own_grown HO.out (hb3.alloc hb3.size _)
          intro v' w' hown' hgrow _ hat
          have hBA := hb3.alloc hb3.size (.cells #[.int .u8 1, .int .i64 x, .string ⟨#[]⟩, .slice none 0 0] 32)
          have zA := hBA.size
          have zL := HBL.out.size
          have hV' : Vals none W2.heap.size w' v' (TS ++ [numT x]) := Vals.app (ts := TS) (us := [numT x]) (HH.out.keep fun b hf => ⟨⟨hf.1, Nat.lt_of_lt_of_le hf.2.1 zA, hf.2.2⟩, hBA.block b hf.2.1⟩) (fun g e => by cases e)
            (HoldL.one (by
              unfold numT
              simp only [IsTmIn]
              exact ⟨rfl, by omega, rfl, hxI, rfl, by show 0 ≤ maxLen; exact Nat.zero_le _, none, 0, rfl, by simp, fun h => absurd rfl h⟩)) (by rw [htl]; exact hown') hgrow (by rw [World.size_alloc]; exact hat)
          have hBw : Below W2.heap.size W2 w' := (HBL.out.trans (hBA.mono zL)).grown hgrow (by omega) (fun k e => (HO.out.lt k e).1)
          have HF := Lib.hid (show ∃ j' : Nat, j' ≤ L.length ∧ (Value.int .i64 ((j + 1 : Nat) : Int)) = .int .i64 j' ∧ Vals none W2.heap.size w' v' ((L.take j').map numT) ∧ Below W2.heap.size W2 w' from ⟨j + 1, by omega, rfl, by rw [HT.out]; exact hV', hBw⟩)
          clear hown' hgrow hat hBA hV' hBw HH HO HT
          gi_wp2
          go_roundw
          case rel => exact HF.out
          case measure => simp [intOf]; omega
        · have hje : j = L.length := by omega
          subst hje
          rw [List.take_of_length_le (Nat.le_refl _)] at hV
          have HV := Lib.hid hV
          clear hV hBl
          gi_wp2
          have zD := (Array.getElem?_eq_some_iff.1 HK.out).1
          have zb := HB2.out.size
          rw [World.size_alloc] at zb
          have hKa : (W.alloc (.cells #[.map (some wx.heap.size)] 93)).heap[D]? = some (.deferred (some [])) := (Below.heap_alloc _ _ _ zD).trans HK.out
          have hK2 : wr.heap[D]? = some (.deferred (some [])) := (HBL.out.block D (by omega)).trans ((HB2.out.block D (by simp; omega)).trans hKa)
          have z4 := H4.out.size
          have hBf : Below w.heap.size w wr := (H4.out.alloc z4 (.cells #[.map (some wx.heap.size)] 93)).trans ((HB2.out.mono (by simp; omega)).trans (HBL.out.mono (by omega)))
          refine ⟨by simp, .inl ⟨_, _, rfl, run_takeDeferred hK2, ?_⟩⟩
          refine ⟨_, results_tmp rfl _ _ _, ?_⟩
          exact .inl ⟨_, u11, HE.out, rfl, (HV.out.own (grownBy_putObj' wr D (.deferred none)) (fun r e => by cases e; exact ⟨_, hK2, rfl⟩)).lower (by omega), hBf.trans (belowK_b (w := w) (Nat.le_refl _) wr D _ (.deferred none) (by omega) hK2 rfl rfl)⟩
    case hbody =>
      rintro m l g pre x a' W hl0 hg hpf ⟨h1, h2, h3, h4, h5, h6, h7⟩ hc rfl
      have hxl : x.length = args.length := by rw [combos_length _ x (hpf.subset (by simp)), hLa]
      have hple : (resOf o (pre ++ [x])).length ≤ (resultsI o (ls.map intsOf)).length := resOf_prefix hpf
      have c7 := h2.cell
      have cq := h3.cell
      have hIV : IntV W (.slice (some ⟨g, 0, none⟩) args.length args.length) x := by
        refine ⟨some ⟨g, 0, none⟩, args.length, by rw [hxl], by rw [hxl]; exact hl, fun _ => ⟨g, 0, rfl, hc.lt, fun i hi => ?_⟩⟩
        have := World.ownsRow.cells hc (g := g) rfl i (.int .i64 x[i]) (by simp [hi])
        have hadd : (⟨g, 0, none⟩ : Addr).add i = ⟨g, i, none⟩ := by unfold Addr.add; split <;> simp_all
        rwa [hadd, show (⟨g, i, none⟩ : Addr) = ⟨g, 0 + i, none⟩ from by rw [Nat.zero_add]] at this
      have hp := apply_any o x (by rw [hxl, arOf_arity ho]) _ W hIV
      unfold AppPost at hp
      have HS := Lib.hid h1
      have H2 := Lib.hid h2
      have H3 := Lib.hid h3
      have H4 := Lib.hid h4
      have H5 := Lib.hid h5
      clear h1 h2 h3 h4 h5 hIV
      have hkd : ∀ nd, KeepsOthers W (W.drewN nd) := fun nd => ⟨Nat.le_refl _, fun _ _ h _ => h⟩
      cases hr : applyI o x with
      | none =>
        rw [hr] at hp
        simp only [optPair] at hp
        have HP := Lib.hid hp
        clear hp
        have HR := Lib.hid (resOf_none (pre := pre) hr)
        clear hr
        gi_wp2_with (first | (refine ⟨trivial, wide_dep _, ?_⟩; gi_at_call 33; refine ((callsIn_wide.2 HP.out).inRound _).mono ?_; rintro e w' ⟨rfl, nd, rfl⟩))
        exact ⟨(hkd nd).from _, ⟨KeepOk.refl _ _, Nat.le_refl _, rfl⟩, by unfold OpL; rw [HR.out]; exact ⟨HS.out, H2.out, H3.out, ⟨H4.out.os, H4.out.tape, H4.out.output, H4.out.size, H4.out.block⟩, H5.out, h6, h7⟩⟩
      | some y =>
        rw [hr] at hp
        simp only [optPair] at hp
        have HP := Lib.hid hp
        clear hp
        have hy := applyI_range hr
        have hyI : I64 y := by
          unfold I64 Lit.wf
          simp only [Bool.and_eq_true, decide_eq_true_eq]
          exact ⟨by show -9223372036854775808 ≤ y; omega, by show y ≤ 9223372036854775807; omega⟩
        have hSd : ∀ nd, SetI (W.drewN nd) wx.heap.size (resOf o pre) := fun nd => HS.out.kept (row := none) ⟨rfl, rfl, rfl, Nat.le_refl _, fun _ _ _ => rfl⟩ (by simp)
        have hlk := fun nd => (hSd nd).look y hyI
        have hc7 : ∀ nd, (W.drewN nd).cell? ⟨wx.heap.size + 1, 0, none⟩ = some (.map (some wx.heap.size)) := fun nd => c7
        by_cases hm : y ∈ resOf o pre
        · have HR := Lib.hid (resOf_old hr hm)
          simp only [decide_eq_true hm] at hlk
          clear hr hm
          gi_wp2_with (first | (refine ⟨trivial, wide_dep _, ?_⟩; gi_at_call 33; refine ((callsIn_wide.2 HP.out).inRound _).mono ?_; rintro e w' ⟨rfl, nd, rfl⟩))
          exact ⟨(hkd nd).from _, ⟨KeepOk.refl _ _, Nat.le_refl _, rfl⟩, by unfold OpL; rw [HR.out]; exact ⟨HS.out, H2.out, H3.out, ⟨H4.out.os, H4.out.tape, H4.out.output, H4.out.size, H4.out.block⟩, H5.out, h6, h7⟩⟩
        · have hnew := resOf_new hr hm
          rw [hnew, List.length_append, List.length_singleton] at hple
          have HR := Lib.hid hnew
          have HM := Lib.hid hm
          simp only [decide_eq_false hm] at hlk
          have hlen := fun nd ty => (hSd nd).len ty
          clear hr hm hnew
          have hgb : ∀ nd, W.grownBy (W.drewN nd) none := fun nd => ⟨rfl, rfl, rfl, Nat.le_refl _, fun _ _ _ => rfl⟩
          obtain ⟨fw, hfw⟩ : ∃ fw : Nat → World, ∀ nd, (Instr.mapUpdate 93 (.map (some wx.heap.size)) (.int .i64 y) (.bool true)).run Tryz.prog (W.drewN nd) = .ok () (fw nd) ∧ SetI (fw nd) wx.heap.size (resOf o pre ++ [y]) ∧ (W.drewN nd).grownBy (fw nd) (some wx.heap.size) :=
            ⟨fun nd => ((hSd nd).put y hyI HM.out h7).choose, fun nd => ((hSd nd).put y hyI HM.out h7).choose_spec⟩
          have hup := fun nd => (hfw nd).1
          have HFW := Lib.hid fun nd => (hfw nd).2
          clear hfw
          by_cases hfar : 1000 < ((resOf o pre).length : Int) + 1
          · gi_wp2_with (first | (refine ⟨trivial, wide_dep _, ?_⟩; gi_at_call 33; refine ((callsIn_wide.2 HP.out).inRound _).mono ?_; rintro e w' ⟨rfl, nd, rfl⟩) | (refine ⟨trivial, wide_dep _, ?_⟩; gi_at_call 78; refine ((callsIn_wide.2 (limit_far _ hfar _)).inRound _).mono ?_; rintro e w' ⟨rfl, rfl⟩))
            exact ⟨rfl, (hkd nd).from _, rfl, by omega, ⟨H4.out.os, H4.out.tape, H4.out.output, H4.out.size, H4.out.block⟩⟩
          · gi_wp2_with (first | (refine ⟨trivial, wide_dep _, ?_⟩; gi_at_call 33; refine ((callsIn_wide.2 HP.out).inRound _).mono ?_; rintro e w' ⟨rfl, nd, rfl⟩) | (refine ⟨trivial, wide_dep _, ?_⟩; gi_at_call 78; refine ((callsIn_wide.2 (limit_ok _ (by omega) _)).inRound _).mono ?_; rintro e w' ⟨rfl, rfl⟩))
            obtain ⟨hS2, hg2⟩ := HFW.out nd
            have zM := HS.out.lt
            have zW := hg2.size
            have hd4 : Below w.heap.size w (W.drewN nd) := ⟨H4.out.os, H4.out.tape, H4.out.output, H4.out.size, H4.out.block⟩
            refine ⟨?_, ⟨fun b hb' => ?_, hg2.size, ?_⟩, ?_⟩
            · refine ((hkd nd).from _).trans ⟨hg2.size, fun k o' hk1 hk2 _ => (hg2.block k (Array.getElem?_eq_some_iff.1 hk2).1 (fun e => by cases e; omega)).trans hk2⟩
            · exact hg2.block b (Nat.lt_of_lt_of_le (hokl b hb') h6) (fun e => by cases e; rw [hok] at hb'; have := hb'.2; omega)
            · exact hg2.block g hc.lt (fun e => by cases e; omega)
            · unfold OpL
              rw [HR.out]
              exact ⟨hS2, (H2.out.kept (hgb nd) (by simp)).kept hg2 (by simp), (H3.out.kept (hgb nd) (by simp)).kept hg2 (by simp; omega), hd4.grown hg2 (by have := H4.out.size; exact this) (fun k e => by cases e; omega),
                fun b hb' => (hg2.block b (Nat.lt_of_lt_of_le (hokl b hb') h6) (fun e => by cases e; rw [hok] at hb'; have := hb'.2; omega)).trans (H5.out b hb'), Nat.le_trans h6 hg2.size, by rw [List.length_append, List.length_singleton]; omega⟩
  have b0 : (w.alloc (.cells #[.int .u8 5, .int .i64 n, .string s, .slice a args.length cap] 32)).heap[w.heap.size]? = some (.cells #[.int .u8 5, .int .i64 n, .string s, .slice a args.length cap] 32 (0, 0)) := World.alloc_heap_new _ _
  gi_wp2
  gi_loopw [3, 17] (fun v i wr => OpI w.heap.size w #[.int .u8 5, .int .i64 n, .string s, .slice a args.length cap] args v i wr) (fun _ i _ => args.length - (intOf i).toNat)
  case atStart => exact ⟨0, [], Nat.zero_le _, rfl, by simp [Tm.expL], rfl, ListsI.nil _ _, (Below.refl _ w).alloc (Nat.le_refl _) _, b0, by simp⟩
  case round =>
    clear b0
    obtain ⟨j, ls, hj, rfl, hE, hjl, hLs, hB, hb, hz⟩ := hrel
    by_cases hlt : j < args.length
    · obtain ⟨bk, off, rfl, hbk', hI⟩ := HA.out (by intro e; rw [e] at hlt; simp at hlt)
      obtain ⟨c0, c1, c2, c3, e0, e1, e2, e3, hc⟩ := hI.at j hlt
      have g0 := (hB.cell (p := ⟨bk, off + j * 4, none⟩) (by show bk < _; omega)).trans e0
      have g1 := (hB.cell (p := ⟨bk, off + j * 4 + 1, none⟩) (by show bk < _; omega)).trans e1
      have g2 := (hB.cell (p := ⟨bk, off + j * 4 + 2, none⟩) (by show bk < _; omega)).trans e2
      have g3 := (hB.cell (p := ⟨bk, off + j * 4 + 3, none⟩) (by show bk < _; omega)).trans e3
      have hih := HIH.out args[j] (List.getElem_mem hlt)
      have hwf := Tm.WfL_mem HWL.out (List.getElem_mem hlt)
      have htk := Tm.expL_take hlt
      rw [hE] at htk
      obtain ⟨u, hq⟩ : ∃ u, args[j] = u := ⟨_, rfl⟩
      rw [hq] at hc hih hwf htk
      obtain ⟨k', n', s', as'⟩ := u
      have hc0 := hc
      simp only [IsTm] at hc
      obtain ⟨rfl, _, rfl, hn', rfl, _, a', cap', rfl, _, _⟩ := hc
      have hA : Below wr.heap.size wr (wr.alloc (.cells #[.int .u8 k', .int .i64 n', .string s', .slice a' as'.length cap'] 32)) := (Below.refl _ wr).alloc (Nat.le_refl _) _
      have hBA := hB.trans (hA.mono hB.size)
      have HC := Lib.hid (hih _ _ _ _ _ ((hc0.below hBA).mono hBA.size) hwf)
      have HLs := Lib.hid hLs
      have HB := Lib.hid hB
      have HT := Lib.hid htk
      have HBB := Lib.hid hb
      have HHA := Lib.hid hA
      clear e0 e1 e2 e3 hih hwf htk hc0 hI hLs hB hA hBA hb hE
      have i1 : (0 : Int) ≤ (j : Int) := by omega
      have i2 : (j : Int) < (args.length : Int) := by omega
      cases hx : (Tm.mk k' n' s' as').exp with
      | none =>
        rw [hx] at HT
        have HN := Lib.hid (Tm.expL_none_take (j + 1) HT.out)
        have HP := Lib.hid (HC.out.mono (R' := fun e W2 => e = .panicked boom ∧ Below (wr.alloc (.cells #[.int .u8 k', .int .i64 n', .string s', .slice a' as'.length cap'] 32)).heap.size (wr.alloc (.cells #[.int .u8 k', .int .i64 n', .string s', .slice a' as'.length cap'] 32)) W2) (by
          rintro e W2 (⟨ts, v2, h1, _⟩ | ⟨_, h2, h3⟩)
          · rw [hx] at h1; cases h1
          · exact ⟨h2, h3⟩))
        clear HC HT hx
        gi_wp2_with (first | (refine ⟨trivial, rfl, ?_⟩; gi_at_call 39; refine (callsIn_wide.2 HP.out).mono ?_; clear HP; rintro e W2 ⟨rfl, h4⟩))
        have z1 := HHA.out.size
        exact .inr ⟨by rw [Tm.exp_op, HN.out]; rfl, rfl, HB.out.trans ((HHA.out.mono HB.out.size).trans (h4.mono (by have := HB.out.size; omega)))⟩
      | some tsj =>
        rw [hx] at HT
        have hts := exp_le hx
        have HP := Lib.hid (HC.out.mono (R' := fun e W2 => ∃ a2 n2 c2, e = .returned (.slice a2 n2 c2) ∧ Vals none (wr.alloc (.cells #[.int .u8 k', .int .i64 n', .string s', .slice a' as'.length cap'] 32)).heap.size W2 (.slice a2 n2 c2) tsj ∧ Below (wr.alloc (.cells #[.int .u8 k', .int .i64 n', .string s', .slice a' as'.length cap'] 32)).heap.size (wr.alloc (.cells #[.int .u8 k', .int .i64 n', .string s', .slice a' as'.length cap'] 32)) W2) (by
          rintro e W2 (⟨ts, v2, h1, h2, h3, h4⟩ | ⟨h1, _⟩)
          · rw [hx] at h1; cases h1
            obtain ⟨a2, n2, c2, rfl⟩ := h3.slice
            exact ⟨a2, n2, c2, h2, h3, h4⟩
          · rw [hx] at h1; cases h1))
        clear HC hx
        obtain ⟨i0, hi, hz0, hz1, hz2⟩ := info_parts info_ints
        obtain ⟨vs, hown, hrows⟩ := HLs.out
        have HOW := Lib.hid hown
        have HRW := Lib.hid hrows
        clear hown hrows
        gi_wp2_with (first | (refine ⟨trivial, rfl, ?_⟩; gi_at_call 39; refine (callsIn_wide.2 HP.out).mono ?_; clear HP; rintro e W2 ⟨a2, n2, c2, rfl, hv2, h4⟩) | (refine ⟨trivial, rfl, ?_⟩; gi_at_call 80; refine (callsIn_wide.2 (integers_any tsj _ _ hv2.tms (by omega))).mono ?_; rintro e W3 ⟨v3, rfl, hn3, h5⟩; obtain ⟨a3, n3, c3, rfl⟩ := hn3.slice) | (gi_at_builtin; refine wpListIn_append_own_at _ rfl _ _ 91 rfl w.heap.size 22 i0 _ 1 24 Tryz.underlying91 hi hz0 hz1 hz2 rfl (by decide) u3 (ls.map intsOf).length vs rfl ?c0 _ 1 1 [.slice a3 n3 c3] rfl rfl ?c1 ?c2 ?c3 ?c4 ?c5 ?_))
        case c2 => simp [Value.oneCell']
        case c3 => rw [List.length_map]; unfold maxLen; omega
        case c4 => rw [List.length_map]; omega
        case c1 => exact cell_one_new _ _ _
        case c5 => have := HHA.out.size; have := h4.size; have := h5.size; simp; omega
        case c0 => exact own_grown (own_grown HOW.out HHA.out) ((h4.trans (h5.mono h4.size)).alloc (Nat.le_trans h4.size h5.size) _)
        intro v' w' hown' hgrow _ hat
        have h45 := h4.trans (h5.mono h4.size)
        have hBel := HHA.out.trans ((h45.alloc h45.size (.cells #[.slice a3 n3 c3] 22)).mono HHA.out.size)
        have hOW := own_grown HOW.out hBel
        have z1 := HHA.out.size
        have z2 := h45.size
        have z3 := hgrow.size
        have z4 := h4.size
        rw [World.size_alloc] at z3
        have hBN : Below w.heap.size w w' := (HB.out.trans (hBel.mono HB.out.size)).grown hgrow (by simp; omega) (fun k e => (HOW.out.lt k e).1)
        have hb' : w'.heap[w.heap.size]? = _ := (hgrow.block w.heap.size (by simp; omega) (fun e => own_not hOW ((hBel.block _ (by omega)).trans HBB.out) (by decide) e.symm)).trans ((hBel.block _ (by omega)).trans HBB.out)
        have hL' : ListsI w.heap.size w' v' (ls.map intsOf ++ [intsOf tsj]) := ListsI.app hOW
          (fun i hi => by
            obtain ⟨u, hu, hR⟩ := HRW.out i hi
            exact ⟨u, hu, hR.keep fun b hf => ⟨⟨hf.1, Nat.lt_of_lt_of_le hf.2.1 hBel.size, hf.2.2⟩, hBel.block b hf.2.1⟩⟩)
          (hn3.rowIn.keep fun b hf => ⟨⟨by omega, by simp; omega, fun e => by have := (HOW.out.lt b e).2; omega⟩, Below.heap_alloc _ _ _ hf.2⟩) (by rw [List.length_map, hjl]; exact hown') hgrow (by rw [World.size_alloc]; exact hat)
        have HF := Lib.hid (show OpI w.heap.size w #[.int .u8 5, .int .i64 n, .string s, .slice (some ⟨bk, off, none⟩) args.length cap] args v' (.int .i64 ((j + 1 : Nat) : Int)) w' from
          ⟨j + 1, ls ++ [tsj], by omega, rfl, by rw [HT.out]; rfl, by simp [hjl], by rw [List.map_append]; exact hL', hBN, hb', by omega⟩)
        clear hown' hgrow hat hBel hOW hBN hb' hL' HRW HOW
        gi_wp2
        go_roundw
        case rel => exact HF.out
        case measure => simp [intOf]; omega
    · have hje : j = args.length := by omega
      subst hje
      rw [List.take_of_length_le (Nat.le_refl _)] at hE
      gi_wp2
      exact ⟨ls, _, _, _, _, _, _, _, _, _, _, _, _, hE, hjl, hLs, hB, hb, hz, rfl⟩
end Go.Proofs.YtnobmffgchlijaaGreatDoor
