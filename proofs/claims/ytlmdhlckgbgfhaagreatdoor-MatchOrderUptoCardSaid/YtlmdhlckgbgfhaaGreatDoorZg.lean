/- Texts that belong together: Package arith: expandOperation. Package arith: expandInterval. Package arith: expand. Package arith: detach. -/
import Derived.Test.YtlmdhlckgbgfhaaGreatDoorZf
import Derived.Test.YtlmdhlckgbgfhaaGreatDoorZe
import Derived.Test.YtlmdhlckgbgfhaaGreatDoorIti
import Derived.Laws.EntriesVeiled
import Derived.WideLaws
import Derived.Maps.AppendAt
set_option maxRecDepth 100000
set_option maxHeartbeats 400000000
namespace Go.Proofs.YtlmdhlckgbgfhaaGreatDoor
open Go.RowKit Go.Shelf
attribute [local go_sem] Oper.semAt_some

theorem info_ints : (Tryz.prog.info? 125).map (fun i => (i.zero, i.size, i.bytes)) = some (some (.slice none 0 0), 1, 24) := by kernel_rfl

def RowInI (ok : Nat → Prop) (w : World) (v : Value) (l : List Int) : Prop := ∃ (a : Option Addr) (cap : Nat), v = .slice a l.length cap ∧ l.length ≤ maxLen ∧ (l ≠ [] → ∃ b off, a = some ⟨b, off, none⟩ ∧ ok b ∧ ∀ j (hj : j < l.length), w.cell? ⟨b, off + j, none⟩ = some (.int .i64 l[j]))
theorem RowInI.keep {ok ok' : Nat → Prop} {w w' : World} (h : ∀ b, ok b → ok' b ∧ w'.heap[b]? = w.heap[b]?) {v : Value} {l : List Int} (hr : RowInI ok w v l) : RowInI ok' w' v l := by
 obtain ⟨a, cap, hv, hl, hr⟩ := hr
 refine ⟨a, cap, hv, hl, fun hne => ?_⟩
 obtain ⟨b, off, ha, hb, hi⟩ := hr hne
 exact ⟨b, off, ha, (h b hb).1, fun j hj => (cell_block (h b hb).2).trans (hi j hj)⟩
theorem Nums.rowIn {base : Nat} {w : World} {v : Value} {l : List Int} (h : Nums base w v l) : RowInI (fun b => base ≤ b ∧ b < w.heap.size) w v l := by
 have h0 := h
 obtain ⟨_, ⟨rfl, hn⟩ | ⟨g, cap, cur, rfl, hb, hg, hc, hm, _, _⟩⟩ := h
 · exact ⟨none, 0, by rw [hn], by rw [hn]; exact Nat.zero_le _, fun hne => absurd (List.length_eq_zero_iff.1 hn) hne⟩
 · refine ⟨some ⟨g, 0, none⟩, cap, rfl, Nat.le_trans hc hm, fun _ => ⟨g, 0, rfl, ⟨hb, (gL hg)⟩, fun i hi => ?_⟩⟩
   have := h0.cells (g := g) rfl i (.int .i64 l[i]) (by simp [hi])
   have hadd : (⟨g, 0, none⟩ : Addr).add i = ⟨g, i, none⟩ := by unfold Addr.add; split <;> simp_all
   rwa [hadd, show (⟨g, i, none⟩ : Addr) = ⟨g, 0 + i, none⟩ from by rw [Nat.zero_add]] at this
theorem Nums.slice {base : Nat} {w : World} {v : Value} {l : List Int} (h : Nums base w v l) : ∃ a n c, v = .slice a n c := by
 rcases h.2 with ⟨rfl, _⟩ | ⟨g, cap, cur, rfl, _⟩
 · exact ⟨_, _, _, rfl⟩
 · exact ⟨_, _, _, rfl⟩

def ListsI (base : Nat) (w : World) (v : Value) (ls : List (List Int)) : Prop :=
 ∃ vs : List Value, w.ownsRow base 125 1 v ls.length vs ∧ ∀ i (h : i < ls.length), ∃ u, vs[i]? = some u ∧ RowInI (fun b => base ≤ b ∧ b < w.heap.size ∧ v.ownBlock ≠ some b) w u ls[i]
theorem ListsI.nil (base : Nat) (w : World) : ListsI base w (.slice none 0 0) [] := ⟨[], World.ownsRow_nil _ _ _ _, fun i h => absurd h (by simp)⟩
theorem ListsI.grow {base : Nat} {w w' : World} {v : Value} {ls : List (List Int)} (h : ListsI base w v ls) (hb : Below w.heap.size w w') : ListsI base w' v ls := by
 obtain ⟨vs, ho, hr⟩ := h
 refine ⟨vs, own_grown ho hb, fun i hi => ?_⟩
 obtain ⟨u, hu, hR⟩ := hr i hi
 exact ⟨u, hu, hR.keep fun b hf => ⟨⟨hf.1, Nat.lt_of_lt_of_le hf.2.1 hb.size, hf.2.2⟩, hb.block b hf.2.1⟩⟩
theorem ListsI.app {base : Nat} {w w' : World} {v v' u : Value} {ls : List (List Int)} {vs : List Value} {ts : List Int} (ho : w.ownsRow base 125 1 v ls.length vs)
   (hr : ∀ i (h : i < ls.length), ∃ u, vs[i]? = some u ∧ RowInI (fun b => base ≤ b ∧ b < w.heap.size ∧ v.ownBlock ≠ some b) w u ls[i]) (hu : RowInI (fun b => base ≤ b ∧ b < w.heap.size ∧ v.ownBlock ≠ some b) w u ts)
   (hown : w'.ownsRow base 125 1 v' (ls.length + 1) (vs ++ [u])) (hg : w.grownBy w' v.ownBlock) (hat : v'.ownBlock = v.ownBlock ∨ v'.ownBlock = some w.heap.size) : ListsI base w' v' (ls ++ [ts]) := by
 have hk : ∀ b, (base ≤ b ∧ b < w.heap.size ∧ v.ownBlock ≠ some b) → (base ≤ b ∧ b < w'.heap.size ∧ v'.ownBlock ≠ some b) ∧ w'.heap[b]? = w.heap[b]? := fun b hf =>
   ⟨⟨hf.1, Nat.lt_of_lt_of_le hf.2.1 hg.size, by
     rcases hat with e | e <;> rw [e]
     · exact hf.2.2
     · intro e'; cases e'; exact absurd hf.2.1 (by omega)⟩, hg.block b hf.2.1 (fun e => hf.2.2 e.symm)⟩
 have hvl : vs.length = ls.length := by have := ho.1; omega
 refine ⟨vs ++ [u], by simpa using hown, fun i hi => ?_⟩
 by_cases h : i < ls.length
 · obtain ⟨x, hx, hR⟩ := hr i h
   refine ⟨x, by rw [List.getElem?_append_left (by omega)]; exact hx, ?_⟩
   rw [List.getElem_append_left h]
   exact hR.keep hk
 · have hi' : i = ls.length := by simp at hi; omega
   subst hi'
   refine ⟨u, by rw [← hvl]; simp, ?_⟩
   rw [List.getElem_append_right (Nat.le_refl _)]
   simpa using hu.keep hk


def OpI (N : Nat) (w : World) (cs : Array Value) (args : List Tm) (v i : Value) (wr : World) : Prop :=
 ∃ (j : Nat) (ls : List (List Tm)), j ≤ args.length ∧ i = .int .i64 j ∧ Tm.expL (args.take j) = some ls ∧ ls.length = j ∧ ListsI N wr v (ls.map intsOf) ∧ Below N w wr ∧ wr.heap[N]? = some (.cells cs 24 (0, 0)) ∧ N + 1 ≤ wr.heap.size
def OpK (N : Nat) (w : World) (cs : Array Value) (a : Option Addr) (cap : Nat) (args : List Tm) (a1 : Act) (wr : World) : Prop :=
 ∃ (ls : List (List Tm)) (v y5 y18 y19 y20 y21 y22 y23 y24 y25 y26 y27 : Value), Tm.expL args = some ls ∧ ls.length = args.length ∧ ListsI N wr v (ls.map intsOf) ∧ Below N w wr ∧ wr.heap[N]? = some (.cells cs 24 (0, 0)) ∧ N + 1 ≤ wr.heap.size ∧
   a1 = { tmps := #[.agg cs, .pointer (some ⟨N, 0, none⟩), .slice none 0 0, v, undef, y5, undef, undef, undef, undef, undef, undef, undef, undef, .pointer (some ⟨N, 3, none⟩), .slice a args.length cap, .int .i64 args.length, .int .i64 args.length, y18, y19, y20, y21, y22, y23, y24, y25, y26, y27,
     undef, undef, undef, undef, undef, undef, undef, undef, undef, undef, undef, undef, undef, undef, undef, undef, undef, undef, undef, undef, undef, undef, undef, undef, undef, undef, undef, undef, undef, undef, undef, undef, undef, undef, undef, undef, undef, undef, undef, undef, undef, undef, undef, undef, undef, undef], defers := [] }

theorem Vals.lower {ex : Option Nat} {B B' : Nat} {w : World} {v : Value} {ts : List Tm} (h : Vals ex B w v ts) (hB : B' ≤ B) : Vals ex B' w v ts := by
 obtain ⟨xs, ho, hh, hx⟩ := h
 exact ⟨xs, ownsRow_lower' ho hB, hh.keep fun b hf => ⟨⟨Nat.le_trans hB hf.1, hf.2⟩, rfl⟩, hx⟩
theorem own_slice {w : World} {base k size : Nat} {e : TypeId} {v : Value} {xs : List Value} (h : w.ownsRow base e size v k xs) : ∃ a n c, v = .slice a n c := by
 rcases h.2 with ⟨rfl, _⟩ | ⟨g, cap, cur, rfl, _⟩
 · exact ⟨_, _, _, rfl⟩
 · exact ⟨_, _, _, rfl⟩
def OpL (N M q : Nat) (o : Ar) (w W0 : World) (ok : Nat → Prop) (_ : Option Nat) (pre : List (List Int)) (W : World) : Prop :=
 SetI W M (resOf o pre) ∧ Boxed W (M + 1) 133 (.map (some M)) ∧ Boxed W q 128 (.func (.func (fnAr o)) #[] #[]) ∧ Below N w W ∧ KeepOk ok W0 W ∧ W0.heap.size ≤ W.heap.size ∧ (resOf o pre).length ≤ 1000
theorem OpL.own {N M q : Nat} {o : Ar} {w W0 : World} {ok : Nat → Prop} (hN : N ≤ w.heap.size) (hN0 : N ≤ W0.heap.size) (hok : ∀ b, ok b → b < W0.heap.size) (hM : M + 1 < W0.heap.size) (hq : q < W0.heap.size) (op : Option Nat) : OwnFrom W0.heap.size (OpL N M q o w W0 ok op) := by
 rintro pre A B row ⟨h1, h2, h3, h4, h5, h6, h7⟩ hg hr
 have hne : ∀ k, k < W0.heap.size → some k ≠ row := fun k hk e => by have := (hr k e.symm).1; omega
 exact ⟨h1.kept hg (hne _ (by omega)), h2.kept hg (hne _ hM), h3.kept hg (hne _ hq), ownFrom_below hN hN0 pre A B row h4 hg hr, fun b hb => (hg.block b (Nat.lt_of_lt_of_le (hok b hb) h6) (hne _ (hok b hb)).symm.symm).trans (h5 b hb), Nat.le_trans h6 hg.size, h7⟩
theorem OpL.bears {N M q : Nat} {o : Ar} {w W0 : World} {ok : Nat → Prop} (hN0 : N ≤ W0.heap.size) (hok : ∀ b, ok b → b < W0.heap.size) (hM : M + 1 < W0.heap.size) (hq : q < W0.heap.size) (g : Nat) (hg0 : W0.heap.size ≤ g) : BearsO (AbE g) (OpL N M q o w W0 ok (some g)) := by
 rintro pre A B ⟨h1, h2, h3, h4, h5, h6, h7⟩ hg
 exact ⟨h1.kept hg (by simp; omega), h2.kept hg (by simp; omega), h3.kept hg (by simp; omega), h4.grown hg (by omega) (fun k e => by cases e; omega), h5.grown hg (fun h => by have := hok _ h; omega) (fun b hb => Nat.lt_of_lt_of_le (hok b hb) h6), Nat.le_trans h6 hg.size, h7⟩

def FnT (H N : Nat) (s : ByteArray) (a : Option Addr) (k cap : Nat) (o : Ar) : Facts := fun i v w => match i with
 | 0 => ∃ M, v = .map (some M) ∧ H ≤ M ∧ OpsMap w M
 | 1 => v = .pointer (some ⟨N, 2, none⟩)
 | 2 => v = .string s
 | 3 => v = .pointer (some ⟨N, 3, none⟩)
 | 4 => v = .slice a k cap
 | 5 => v = .int .i64 k
 | 6 => v = .agg #[.string s, .int .i64 k]
 | 7 => v = .func (.func (fnAr o)) #[] #[]
 | 8 => ∃ q, v = .pointer (some ⟨q, 0, none⟩) ∧ H ≤ q ∧ w.heap[q]? = some (.cells #[.nilFunc] 128 (0, 0))
 | _ => True
theorem FnT_grow (H N : Nat) (s : ByteArray) (a : Option Addr) (k cap : Nat) (o : Ar) (i : Nat) (v : Value) (w w' : World) (h : FnT H N s a k cap o i v w) (hb : Below w.heap.size w w') : FnT H N s a k cap o i v w' := by
 match i with
 | 1 | 2 | 3 | 4 | 5 | 6 | 7 => exact h
 | 0 =>
   obtain ⟨M, h1, h2, h3⟩ := h
   exact ⟨M, h1, h2, ops_grow h3 hb⟩
 | 8 =>
   obtain ⟨q, h1, h2, h3⟩ := h
   exact ⟨q, h1, h2, (hb.block q (gL h3)).trans h3⟩
 | i + 9 => trivial

theorem operation_any (n : Int) (s : ByteArray) (args : List Tm) (IH : ∀ u ∈ args, ExpAt u) (c0 c1 c2 c3 : Value) (w : World) (h : IsTm w.heap.size w c0 c1 c2 c3 (.mk 5 n s args)) (hw : (Tm.mk 5 n s args).Wf) :
   Calls Tryz.prog 60 #[.agg #[c0, c1, c2, c3]] w (ExpPost (.mk 5 n s args) w) := by
 simp only [IsTm] at h
 obtain ⟨rfl, _, rfl, hn, rfl, hss, a, cap, rfl, hl, ha⟩ := h
 simp only [Tm.Wf] at hw
 obtain ⟨hw8, _, hw4, _, _, hwL⟩ := hw
 have HA := Hi ha
 have HIH := Hi IH
 have HWL := Hi hwL
 have HW4 := Hi (hw4 trivial)
 clear ha IH hwL hw4
 refine callsIn_wide.1 (calls_on (n := 0) Tryz.func60 rfl fun b hbf hbk hbr => ?_)
 simp only [Tryz.ntmps60, List.size_toArray, List.length_cons, List.length_nil, Nat.reduceAdd, Nat.reduceSub, Array.replicate_succ, Array.replicate_zero, List.push_toArray, List.append_toArray, List.nil_append, List.cons_append]
 refine wpOn_seq (wpOn_of (n := 0) hbr ?_)
 gi_wp2
 refine wpOn_seq (wpOn_of (n := 0) hbr ?_)
 gi_wp2
 refine wpOn_seq' (OpK w.heap.size w #[.int .u8 5, .int .i64 n, .string s, .slice a args.length cap] a cap args) ?rest (wpOn_of (n := 0) hbr ?_)
 case rest =>
   rintro a1 wr ⟨ls, v, y5, y18, y19, y20, y21, y22, y23, y24, y25, y26, y27, hE, hll, hLs, hB, hb, hz, rfl⟩
   obtain ⟨o, ho⟩ := HW4.out
   have mixed : Tryz.prog.follows .mixedOrders = true := by kernel_rfl
   refine wpOn_seq (wpOn_of (n := 0) hbr ?_)
   refine wpIn_region_head mixed 9 (FnT wr.heap.size w.heap.size s a args.length cap o) (FnT_grow _ _ _ _ _ _ _) (by kernel_rfl) (by kernel_rfl) (steps_in ⟨?_, ?_, ?_, ?_, ?_, ?_, ?_, ?_, ?_, trivial⟩) ?_
   · intro a2 wx hb2 hd hs ho2 hp
     refine ⟨rfl, ?_⟩
     unfold Oper.wpIn
     refine ⟨fun _ _ => trivial, ?_⟩
     go_simp
     refine ⟨rfl, (callsIn_wide.2 (operations_any wx)).mono ?_⟩
     rintro e w2 ⟨rfl, h1, h2⟩
     exact Stepped.at (v := .map (some wx.heap.size)) rfl hd h2 ⟨_, rfl, hb2.size, h1⟩
   · intro a2 wx hb2 hd hs ho2 hp
     refine ⟨rfl, ?_⟩
     have q1 : a2.tmps.getD 1 undef = _ := (ho2 1 (by kernel_rfl)).trans rfl
     unfold Oper.wpIn
     refine ⟨fun _ _ => trivial, ?_⟩
     go_simp
     exact Stepped.at rfl hd bR rfl
   · intro a2 wx hb2 hd hs ho2 hp
     refine ⟨rfl, ?_⟩
     have q29 : a2.tmps.getD 29 undef = .pointer (some ⟨w.heap.size, 2, none⟩) := facts_at hp 1 29 (by kernel_rfl)
     have x0 := cells_at ((hb2.block w.heap.size (by omega)).trans hb) 2 _ rfl
     unfold Oper.wpIn
     refine ⟨fun _ _ => trivial, ?_⟩
     go_simp
     exact Stepped.at rfl hd bR rfl
   · intro a2 wx hb2 hd hs ho2 hp
     refine ⟨rfl, ?_⟩
     have q1 : a2.tmps.getD 1 undef = _ := (ho2 1 (by kernel_rfl)).trans rfl
     unfold Oper.wpIn
     refine ⟨fun _ _ => trivial, ?_⟩
     go_simp
     exact Stepped.at rfl hd bR rfl
   · intro a2 wx hb2 hd hs ho2 hp
     refine ⟨rfl, ?_⟩
     have q31 : a2.tmps.getD 31 undef = .pointer (some ⟨w.heap.size, 3, none⟩) := facts_at hp 3 31 (by kernel_rfl)
     have x0 := cells_at ((hb2.block w.heap.size (by omega)).trans hb) 3 _ rfl
     unfold Oper.wpIn
     refine ⟨fun _ _ => trivial, ?_⟩
     go_simp
     exact Stepped.at rfl hd bR rfl
   · intro a2 wx hb2 hd hs ho2 hp
     refine ⟨rfl, ?_⟩
     have q32 : a2.tmps.getD 32 undef = .slice a args.length cap := facts_at hp 4 32 (by kernel_rfl)
     unfold Oper.wpIn
     refine ⟨fun _ _ => trivial, ?_⟩
     go_simp
     exact Stepped.at rfl hd bR rfl
   · intro a2 wx hb2 hd hs ho2 hp
     refine ⟨rfl, ?_⟩
     have q30 : a2.tmps.getD 30 undef = .string s := facts_at hp 2 30 (by kernel_rfl)
     have q33 : a2.tmps.getD 33 undef = .int .i64 args.length := facts_at hp 5 33 (by kernel_rfl)
     have s30 := qslot_of (hs.trans (show _ = 74 from rfl)) (by decide) q30
     have s33 := qslot_of (hs.trans (show _ = 74 from rfl)) (by decide) q33
     unfold Oper.wpIn
     refine ⟨fun _ _ => trivial, ?_⟩
     go_simp
     exact Stepped.at (v := .agg #[.string s, .int .i64 args.length]) rfl hd bR rfl
   · intro a2 wx hb2 hd hs ho2 hp
     refine ⟨rfl, ?_⟩
     obtain ⟨M, q28, hM, hOps⟩ : FnT wr.heap.size w.heap.size s a args.length cap o 0 (a2.tmps.getD 28 undef) wx := facts_at hp 0 28 (by kernel_rfl)
     have q34 : a2.tmps.getD 34 undef = .agg #[.string s, .int .i64 args.length] := facts_at hp 6 34 (by kernel_rfl)
     have hrun := ops_get hOps hss hl ho
     unfold Oper.wpIn
     refine ⟨fun _ _ => trivial, ?_⟩
     go_simp
     exact Stepped.at (v := .func (.func (fnAr o)) #[] #[]) rfl hd bR rfl
   · intro a2 wx hb2 hd hs ho2 hp
     refine ⟨rfl, ?_⟩
     unfold Oper.wpIn
     refine ⟨fun _ _ => trivial, ?_⟩
     go_simp
     exact Stepped.at (v := .pointer (some ⟨wx.heap.size, 0, none⟩)) rfl hd (bR.alloc (Nat.le_refl _) _) ⟨wx.heap.size, rfl, hb2.size, World.alloc_heap_new _ _⟩
   intro m' a2 wx hb2 hd hs ho2 hf
   have k35 : a2.tmps.getD 35 undef = .func (.func (fnAr o)) #[] #[] := facts_to hf 7 35 (by decide) (by kernel_rfl)
   obtain ⟨q, k6, hq1, hq2⟩ : FnT wr.heap.size w.heap.size s a args.length cap o 8 (a2.tmps.getD 6 undef) wx := facts_to hf 8 6 (by decide) (by kernel_rfl)
   have k3 : a2.tmps.getD 3 undef = v := (ho2 3 (by kernel_rfl)).trans rfl
   clear hf
   obtain ⟨T, D⟩ := a2
   simp only at hd hs k35 k6 k3
   subst hd
   have hE2 := slots_all T 74 (hs.trans rfl)
   simp only [List.range, List.range.loop, List.map, k35, k6, k3] at hE2
   rw [hE2]
   clear hE2 k35 k6 k3 ho2 hs
   have hBq : Boxed wx q 128 .nilFunc := hq2
   have cq := hBq.cell
   have fq := hBq.frozen
   refine any_one (i := 9) (by kernel_rfl) rfl ?_
   gi_wp2
   refine wpAnyIn_done (by kernel_rfl) ?_ _
   have zq := (gL hq2)
   obtain ⟨W1, hW1⟩ : ∃ W1, wx.setCell ⟨q, 0, none⟩ (.func (.func (fnAr o)) #[] #[]) = W1 := ⟨_, rfl⟩
   have hBQ : Boxed W1 q 128 (.func (.func (fnAr o)) #[] #[]) := by rw [← hW1]; exact hBq.set _
   have hb3 : Below wr.heap.size wr W1 := by rw [← hW1]; exact hb2.setCell (p := ⟨q, 0, none⟩) hq1 _
   have z1 : W1.heap.size = wx.heap.size := by rw [← hW1]; simp [World.setCell]
   rw [hW1]
   clear hW1 hBq cq fq hq2 hb2
   have hmm := @run_makeMap Tryz.prog
   refine wpOn_seq (wpOn_of (n := 0) hbr ?_)
   gi_wp2
   have hls1 : 1 ≤ ls.length := by
     have := arOf_arity ho
     rw [hll, this]; cases o <;> simp [Ar.arity]
   have hA3 : Below wr.heap.size wr (((W1.alloc (.map #[] 0)).alloc (.cells #[.map (some wx.heap.size)] 133)).alloc (.cells #[v] 124)) := ((hb3.alloc (by have := hb3.size; omega) _).alloc (by have := hb3.size; simp; omega) _).alloc (by have := hb3.size; simp; omega) _
   have hLG := hLs.grow hA3
   obtain ⟨W0, hW0⟩ : ∃ W0, ((W1.alloc (.map #[] 0)).alloc (.cells #[.map (some wx.heap.size)] 133)).alloc (.cells #[v] 124) = W0 := ⟨_, rfl⟩
   have hsz : W0.heap.size = wx.heap.size + 3 := by rw [← hW0]; simp; omega
   have hS0 : SetI W0 wx.heap.size [] := by
     rw [← hW0, ← z1]; exact ((SetI.made W1).kept (World.grownBy_alloc _ _ none) (by simp)).kept (World.grownBy_alloc _ _ none) (by simp)
   have hB7 : Boxed W0 (wx.heap.size + 1) 133 (.map (some wx.heap.size)) := by
     rw [← hW0]; have := Boxed.new (W1.alloc (.map #[] 0)) 133 (.map (some wx.heap.size)); rw [World.size_alloc, z1] at this; exact this.alloc _
   have hBc : W0.heap[wx.heap.size + 1 + 1]? = some (.cells #[v] 124 (0, 0)) := by
     rw [← hW0]; have := World.alloc_heap_new ((W1.alloc (.map #[] 0)).alloc (.cells #[.map (some wx.heap.size)] 133)) (.cells #[v] 124); rwa [World.size_alloc, World.size_alloc, z1] at this
   have hQ0 : Boxed W0 q 128 (.func (.func (fnAr o)) #[] #[]) := by rw [← hW0]; exact ((hBQ.alloc _).alloc _).alloc _
   rw [hW0] at hA3
   rw [hW0] at hLG
   obtain ⟨vs, hown, hrows⟩ := hLs
   obtain ⟨bL, capL, rfl⟩ : ∃ bL capL, v = .slice (some ⟨bL, 0, none⟩) ls.length capL := by
     rcases hown.2 with ⟨_, h0⟩ | ⟨g, cap, cur, h1, _⟩
     · rw [List.length_map] at h0; omega
     · rw [List.length_map] at h1; exact ⟨g, cap, h1⟩
   have hbL := hown.lt bL rfl
   have zr := hb3.size
   obtain ⟨ok, hok⟩ : ∃ ok : Nat → Prop, ok = fun b => w.heap.size ≤ b ∧ b < wr.heap.size := ⟨_, rfl⟩
   have hRows : RowsI ok W0 bL (ls.map intsOf) := by
     refine ⟨by rw [hok]; exact ⟨hbL.1, hbL.2⟩, fun i hi => ?_⟩
     obtain ⟨u, hu, a', cap', rfl, h2, h3⟩ := hrows i hi
     have := (own_grown hown hA3).cells (g := bL) rfl i _ hu
     have hadd : (⟨bL, 0, none⟩ : Addr).add i = ⟨bL, i, none⟩ := by unfold Addr.add; split <;> simp_all
     rw [hadd] at this
     refine ⟨a', cap', this, h2, fun hne => ?_⟩
     obtain ⟨b, off, ha, hb', hj⟩ := h3 hne
     exact ⟨b, off, ha, by rw [hok]; exact ⟨hb'.1, hb'.2.1⟩, fun j hj' => (cell_block (hA3.block b hb'.2.1)).trans (hj j hj')⟩
   refine wpOn_seq (wpOn_seq (wpOn_of (n := 0) hbr ?_))
   gi_wp2_with (first | (refine ⟨trivial, rfl, ?_⟩; gi_at_call 86; refine (callsIn_wide.2 (combosI_any _ _ _ _)).mono ?_; rintro e w' ⟨rfl, rfl⟩))
   rw [hll] at hW0
   rw [hW0]
   have hLa : (ls.map intsOf).length = args.length := by rw [List.length_map, hll]
   rw [hll] at hBc
   rw [← hLa] at hBc
   have hokl : ∀ b, ok b → b < W0.heap.size := fun b hb => by rw [hok] at hb; have := hb.2; omega
   have hN0 : w.heap.size ≤ W0.heap.size := by omega
   clear hW0 hLG hrows hown
   refine wpOn_block (range_on (fn := Tryz.f60) (by rw [hbf]; exact Tryz.func60) hbr (gf := 127) (lb := #[.pointer (some ⟨wx.heap.size + 1 + 1, 0, none⟩)]) rfl (enters_of Tryz.func127 (by kernel_rfl) rfl)
     (n := 0) (combosI_seq (ls.map intsOf) (by omega) bL capL (wx.heap.size + 1 + 1) 0 W0 hokl hRows hBc) ?hAb ?hKt ?hKb ?hC (fun _ _ => rfl)
     (OpL w.heap.size wx.heap.size q o w W0 ok) (fun ch W => ch = boom ∧ 1000 < (resultsI o (ls.map intsOf)).length ∧ Below w.heap.size w W) (OpL.own (Nat.le_refl _) hN0 hokl (by omega) (by omega)) (fun g hg => OpL.bears hN0 hokl (by omega) (by omega) g hg) ?h0 ?hst
     (fun g a' _ => a' = { tmps := #[T[0]?.getD undef, T[1]?.getD undef, T[2]?.getD undef, .slice (some ⟨bL, 0, none⟩) args.length capL, T[4]?.getD undef, T[5]?.getD undef, .pointer (some ⟨q, 0, none⟩), .pointer (some ⟨wx.heap.size + 1, 0, none⟩), .slice (some ⟨g, 0, none⟩) args.length args.length, T[9]?.getD undef, T[10]?.getD undef, T[11]?.getD undef, T[12]?.getD undef, T[13]?.getD undef, T[14]?.getD undef, T[15]?.getD undef, T[16]?.getD undef, T[17]?.getD undef, T[18]?.getD undef, T[19]?.getD undef, T[20]?.getD undef, T[21]?.getD undef, T[22]?.getD undef, T[23]?.getD undef, T[24]?.getD undef, T[25]?.getD undef, T[26]?.getD undef, T[27]?.getD undef, T[28]?.getD undef, T[29]?.getD undef, T[30]?.getD undef, T[31]?.getD undef, T[32]?.getD undef, T[33]?.getD undef, T[34]?.getD undef, .func (.func (fnAr o)) #[] #[], .map (some wx.heap.size), .slice (some ⟨bL, 0, none⟩) args.length capL, .func (.func 127) #[] #[.pointer (some ⟨wx.heap.size + 1 + 1, 0, none⟩)], .slice (some ⟨g, 0, none⟩) args.length args.length, T[40]?.getD undef, T[41]?.getD undef, T[42]?.getD undef, T[43]?.getD undef, T[44]?.getD undef, T[45]?.getD undef, T[46]?.getD undef, T[47]?.getD undef, T[48]?.getD undef, T[49]?.getD undef, T[50]?.getD undef, T[51]?.getD undef, T[52]?.getD undef, T[53]?.getD undef, T[54]?.getD undef, T[55]?.getD undef, T[56]?.getD undef, T[57]?.getD undef, T[58]?.getD undef, T[59]?.getD undef, T[60]?.getD undef, T[61]?.getD undef, T[62]?.getD undef, T[63]?.getD undef, T[64]?.getD undef, T[65]?.getD undef, T[66]?.getD undef, T[67]?.getD undef, T[68]?.getD undef, T[69]?.getD undef, T[70]?.getD undef, T[71]?.getD undef, T[72]?.getD undef, T[73]?.getD undef], defers := [] })
     (fun g a' => ownFrom_pure _ fun _ => _) ?hassign ?hbody ?hdone ?hpan)
   case hAb => exact fun g A B l o hlg hg hl _ => (hg.block l (gL hl) (fun e => by cases e; exact hlg rfl)).trans hl
   case hKt => exact fun g A B C h k => ⟨h.1.trans k.1, Nat.le_trans h.2.1 k.2.1, k.2.2.trans h.2.2⟩
   case hKb => exact fun g x W l o o' hl hlg _ _ => ⟨fun b hb => World.putObj_heap_other (by have := hokl b hb; omega), by simp, World.putObj_heap_other (by omega)⟩
   case hC =>
     intro g x W l o o' hc hl ho
     refine hc.block (World.putObj_heap_other fun e => ?_)
     subst e
     rcases hc.2 with ⟨h1, _⟩ | ⟨g', cap', cur, h1, _, h2, _⟩
     · cases h1
     · simp only [Value.slice.injEq, Option.some.injEq, Addr.mk.injEq, and_true, true_and] at h1
       obtain ⟨rfl, _⟩ := h1
       rw [hl] at h2; cases h2; cases ho
   case h0 => exact ⟨hS0, hB7, hQ0, hB.trans (hA3.mono hB.size), KeepOk.refl _ _, Nat.le_refl _, Nat.zero_le _⟩
   case hst =>
     rintro g W W2 hW0 ⟨h1, h2, h3, h4, h5, h6, h7⟩ hg hg2 hb
     have hgb : W.grownBy W2 none := ⟨hb.os, hb.tape, hb.output, hb.size, fun k hk _ => hb.block k hk⟩
     exact ⟨h1.kept hgb (by simp), h2.kept hgb (by simp), h3.kept hgb (by simp), h4.trans (hb.mono (by omega)), h5.trans fun b hb' => hb.block b (Nat.lt_of_lt_of_le (hokl b hb') h6), Nat.le_trans h6 hb.size, h7⟩
   case hassign =>
     intro m l g pre x W K hg hi hc hK
     have HK := Hi (hK _ W (KeepsOthers.refl _ |>.from _) ⟨KeepOk.refl _ _, Nat.le_refl _, rfl⟩ hi hc rfl)
     clear hK
     gi_wp2
     exact HK.out
   case hpan =>
     rintro D ch W hD ⟨rfl, h1, h2⟩ hK
     refine ⟨by simp, .inl ⟨_, _, rfl, run_takeDeferred hK, ?_⟩⟩
     refine .inr ⟨?_, rfl, h2.trans (belowK_b (w := w) (Nat.le_refl _) W D _ (.deferred none) (by omega) hK rfl rfl)⟩
     rw [Tm.exp_op, hE, Option.bind_some, ho]
     exact if_neg (by omega)
   case hdone =>
     rintro D op W hD ⟨h1, h2, h3, h4, h5, h6, h7⟩ hK
     rw [resOf_all] at h1 h7
     have c7 := h2.cell
     obtain ⟨Dm, hm1, hm2, hm3⟩ := h1.keys
     have HKY := Hi (callsIn_wide.1 (Tryz.maps_Keys_I (some wx.heap.size) W))
     have HSO := Hi (callsIn_wide.1 (Tryz.slices_Sorted_I wx.heap.size _ Dm _ W hm1 (by rw [hm2]; unfold maxLen; omega) (by rw [hm2]; omega)))
     have HM3 := Hi hm3
     have H4 := Hi h4
     have HK := Hi hK
     have HE := Hi (show (Tm.mk 5 n s args).exp = some ((sortI (resultsI o (ls.map intsOf))).map numT) by
       rw [Tm.exp_op, hE, Option.bind_some, ho]; exact if_pos h7)
     clear h1 h2 h3 h4 h5 hm1 hm3 hK
     refine wpOn_of (n := 0) hbr ?_
     gi_wp2_with (first | (refine ⟨trivial, rfl, ?_⟩; gi_at_call 89; refine (callsIn_wide.2 HKY.out).mono ?_; clear HKY; rintro e w' ⟨rfl, rfl⟩) | (refine ⟨trivial, rfl, ?_⟩; gi_at_call 88; refine (callsIn_wide.2 HSO.out).mono ?_; clear HSO; rintro e W2 ⟨v2, ss, rfl, hp2, hrow, _, hb2⟩; obtain ⟨a2, n2, c2, rfl⟩ := own_slice hrow))
     obtain ⟨hL, hsl⟩ := HM3.out ss hp2
     rw [hL] at hrow
     obtain ⟨L, hLd⟩ : ∃ L, sortI (resultsI o (ls.map intsOf)) = L := ⟨_, rfl⟩
     have hLl : L.length = ss.length := by rw [← hLd, sortI_length]; exact hsl.symm
     have hLr : ∀ x ∈ L, I64 x := fun x hx => by
       rw [← hLd] at hx
       have hx := (List.mem_mergeSort (le := fun x y => decide (x ≤ y))).1 hx
       obtain ⟨c, _, hc⟩ := resultsI_mem.1 hx
       have hy := applyI_range hc
       unfold I64 Lit.wf
       simp only [Bool.and_eq_true, decide_eq_true_eq]
       exact ⟨by show -9223372036854775808 ≤ x; omega, by show x ≤ 9223372036854775807; omega⟩
     rw [hLd, ← hLl] at hrow
     rw [hLd] at HE
     have hL7 : L.length ≤ 1000 := by rw [hLl, hsl]; exact h7
     have hIV := Nums.intV (l := L) hrow
     obtain ⟨a3, cap3, e3, _, hcs⟩ := hIV
     cases e3
     have HCS := Hi hcs
     have HLR := Hi hLr
     have HB2 := Hi hb2
     clear hcs hb2 hrow hL hp2 HM3 hLd hLr hLl hsl
     gi_loopw [11, 63] (fun v11 i wl => ∃ j : Nat, j ≤ L.length ∧ i = .int .i64 j ∧ Vals none W2.heap.size wl v11 ((L.take j).map numT) ∧ Below W2.heap.size W2 wl) (fun _ i _ => L.length - (intOf i).toNat)
     case atStart => exact ⟨0, Nat.zero_le _, rfl, Vals.nil _ _ _, Below.refl _ _⟩
     case round =>
       obtain ⟨j, hj, rfl, hV, hBl⟩ := hrel
       have HBL := Hi hBl
       by_cases hlt : j < L.length
       · obtain ⟨bk, off, rfl, hbk, hci⟩ := HCS.out (by intro e; rw [e] at hlt; simp at hlt)
         have g0 := (hBl.cell (p := ⟨bk, off + j, none⟩) (by show bk < _; omega)).trans (hci j hlt)
         obtain ⟨x, hx⟩ : ∃ x, L[j] = x := ⟨_, rfl⟩
         rw [hx] at g0
         have hxI : I64 x := by rw [← hx]; exact HLR.out _ (List.getElem_mem hlt)
         obtain ⟨xs, hO, hH, _⟩ := hV
         have HO := Hi hO
         have HH := Hi hH
         have HT := Hi (show (L.take (j + 1)).map numT = (L.take j).map numT ++ [numT x] by rw [List.take_succ_eq_append_getElem hlt, List.map_append, hx]; rfl)
         have htl : ((L.take j).map numT).length = j := by simp; omega
         obtain ⟨TS, hTS⟩ : ∃ TS, (L.take j).map numT = TS := ⟨_, rfl⟩
         rw [hTS] at htl HT HO HH
         clear hTS
         obtain ⟨i0, hi, hz0, hz1, hz2⟩ := info_parts info_term
         have i1 : (0 : Int) ≤ (j : Int) := by omega
         have i2 : (j : Int) < (L.length : Int) := by omega
         clear hci hO hH hx hBl
         gi_wp2_with (first | (refine ⟨trivial, rfl, ?_⟩; gi_at_call 90; refine (callsIn_wide.2 (integer_any x _)).mono ?_; rintro e W3 ⟨rfl, hb3⟩) | (gi_at_builtin; refine wpListIn_append_own_at _ rfl _ _ 22 rfl W2.heap.size 24 i0 _ 4 56 Tryz.underlying22 hi hz0 hz1 hz2 rfl (by decide) u11 TS.length xs rfl ?c0 _ 1 1 [.int .u8 1, .int .i64 x, .string ⟨#[]⟩, .slice none 0 0] rfl rfl ?c1 ?c2 ?c3 ?c4 ?c5 ?_))
         case c2 => simp [Value.oneCell']
         case c3 => unfold maxLen; omega
         case c4 => omega
         case c5 => have := HBL.out.size; have := hb3.size; simp; omega
         case c1 =>
           intro jj u' hu'
           have hn := World.alloc_heap_new W3 (.cells #[.int .u8 1, .int .i64 x, .string ⟨#[]⟩, .slice none 0 0] 24)
           rcases jj with _ | _ | _ | _ | jj
           · cases hu'; exact cells_at hn 0 _ rfl
           · cases hu'; exact cells_at hn 1 _ rfl
           · cases hu'; exact cells_at hn 2 _ rfl
           · cases hu'; exact cells_at hn 3 _ rfl
           · simp at hu'
         case c0 => exact own_grown HO.out (hb3.alloc hb3.size _)
         intro v' w' hown' hgrow _ hat
         have hBA := hb3.alloc hb3.size (.cells #[.int .u8 1, .int .i64 x, .string ⟨#[]⟩, .slice none 0 0] 24)
         have zA := hBA.size
         have zL := HBL.out.size
         have hV' : Vals none W2.heap.size w' v' (TS ++ [numT x]) := Vals.app (ts := TS) (us := [numT x]) (HH.out.keep fun b hf => ⟨⟨hf.1, Nat.lt_of_lt_of_le hf.2.1 zA, hf.2.2⟩, hBA.block b hf.2.1⟩) (fun g e => by cases e)
           (HoldL.one (by
             unfold numT
             simp only [IsTmIn]
             exact ⟨rfl, by omega, rfl, hxI, rfl, by show 0 ≤ maxLen; exact Nat.zero_le _, none, 0, rfl, by simp, fun h => absurd rfl h⟩)) (by rw [htl]; exact hown') hgrow (by rw [World.size_alloc]; exact hat)
         have hBw : Below W2.heap.size W2 w' := (HBL.out.trans (hBA.mono zL)).grown hgrow (by omega) (fun k e => (HO.out.lt k e).1)
         have HF := Hi (show ∃ j' : Nat, j' ≤ L.length ∧ (Value.int .i64 ((j + 1 : Nat) : Int)) = .int .i64 j' ∧ Vals none W2.heap.size w' v' ((L.take j').map numT) ∧ Below W2.heap.size W2 w' from ⟨j + 1, by omega, rfl, by rw [HT.out]; exact hV', hBw⟩)
         clear hown' hgrow hat hBA hV' hBw HH HO HT
         gi_wp2
         go_roundw
         case rel => exact HF.out
         case measure => simp [intOf]; omega
       · have hje : j = L.length := by omega
         subst hje
         rw [List.take_of_length_le (Nat.le_refl _)] at hV
         have HV := Hi hV
         clear hV hBl
         gi_wp2
         have zD := (gL HK.out)
         have zb := HB2.out.size
         rw [World.size_alloc] at zb
         have hKa : (W.alloc (.cells #[.map (some wx.heap.size)] 133)).heap[D]? = some (.deferred (some [])) := (Below.heap_alloc _ _ _ zD).trans HK.out
         have hK2 : wr.heap[D]? = some (.deferred (some [])) := (HBL.out.block D (by omega)).trans ((HB2.out.block D (by simp; omega)).trans hKa)
         have z4 := H4.out.size
         have hBf : Below w.heap.size w wr := (H4.out.alloc z4 (.cells #[.map (some wx.heap.size)] 133)).trans ((HB2.out.mono (by simp; omega)).trans (HBL.out.mono (by omega)))
         refine ⟨by simp, .inl ⟨_, _, rfl, run_takeDeferred hK2, ?_⟩⟩
         refine ⟨_, results_tmp rfl _ _ _, ?_⟩
         exact .inl ⟨_, u11, HE.out, rfl, (HV.out.own (grownBy_putObj' wr D (.deferred none)) (fun r e => by cases e; exact ⟨_, hK2, rfl⟩)).lower (by omega), hBf.trans (belowK_b (w := w) (Nat.le_refl _) wr D _ (.deferred none) (by omega) hK2 rfl rfl)⟩
   case hbody =>
     rintro m l g pre x a' W hl0 hg hpf ⟨h1, h2, h3, h4, h5, h6, h7⟩ hc rfl
     have hxl : x.length = args.length := by rw [combos_length _ x (hpf.subset (by simp)), hLa]
     have hple : (resOf o (pre ++ [x])).length ≤ (resultsI o (ls.map intsOf)).length := resOf_prefix hpf
     have c7 := h2.cell
     have cq := h3.cell
     have hIV : IntV W (.slice (some ⟨g, 0, none⟩) args.length args.length) x := by
       refine ⟨some ⟨g, 0, none⟩, args.length, by rw [hxl], by rw [hxl]; exact hl, fun _ => ⟨g, 0, rfl, hc.lt, fun i hi => ?_⟩⟩
       have := World.ownsRow.cells hc (g := g) rfl i (.int .i64 x[i]) (by simp [hi])
       have hadd : (⟨g, 0, none⟩ : Addr).add i = ⟨g, i, none⟩ := by unfold Addr.add; split <;> simp_all
       rwa [hadd, show (⟨g, i, none⟩ : Addr) = ⟨g, 0 + i, none⟩ from by rw [Nat.zero_add]] at this
     have hp := apply_any o x (by rw [hxl, arOf_arity ho]) _ W hIV
     unfold AppPost at hp
     have HS := Hi h1
     have H2 := Hi h2
     have H3 := Hi h3
     have H4 := Hi h4
     have H5 := Hi h5
     clear h1 h2 h3 h4 h5 hIV
     have hkd : ∀ nd, KeepsOthers W (W.drewN nd) := fun nd => ⟨Nat.le_refl _, fun _ _ h _ => h⟩
     cases hr : applyI o x with
     | none =>
       rw [hr] at hp
       simp only [optPair] at hp
       have HP := Hi hp
       clear hp
       have HR := Hi (resOf_none (pre := pre) hr)
       clear hr
       gi_wp2_with (first | (refine ⟨trivial, wide_dep _, ?_⟩; gi_at_call 87; refine ((callsIn_wide.2 HP.out).inRound _).mono ?_; rintro e w' ⟨rfl, nd, rfl⟩))
       exact ⟨(hkd nd).from _, ⟨KeepOk.refl _ _, Nat.le_refl _, rfl⟩, by unfold OpL; rw [HR.out]; exact ⟨HS.out, H2.out, H3.out, ⟨H4.out.os, H4.out.tape, H4.out.output, H4.out.size, H4.out.block⟩, H5.out, h6, h7⟩⟩
     | some y =>
       rw [hr] at hp
       simp only [optPair] at hp
       have HP := Hi hp
       clear hp
       have hy := applyI_range hr
       have hyI : I64 y := by
         unfold I64 Lit.wf
         simp only [Bool.and_eq_true, decide_eq_true_eq]
         exact ⟨by show -9223372036854775808 ≤ y; omega, by show y ≤ 9223372036854775807; omega⟩
       have hSd : ∀ nd, SetI (W.drewN nd) wx.heap.size (resOf o pre) := fun nd => HS.out.kept (row := none) ⟨rfl, rfl, rfl, Nat.le_refl _, fun _ _ _ => rfl⟩ (by simp)
       have hlk := fun nd => (hSd nd).look y hyI
       have hc7 : ∀ nd, (W.drewN nd).cell? ⟨wx.heap.size + 1, 0, none⟩ = some (.map (some wx.heap.size)) := fun nd => c7
       by_cases hm : y ∈ resOf o pre
       · have HR := Hi (resOf_old hr hm)
         simp only [decide_eq_true hm] at hlk
         clear hr hm
         gi_wp2_with (first | (refine ⟨trivial, wide_dep _, ?_⟩; gi_at_call 87; refine ((callsIn_wide.2 HP.out).inRound _).mono ?_; rintro e w' ⟨rfl, nd, rfl⟩))
         exact ⟨(hkd nd).from _, ⟨KeepOk.refl _ _, Nat.le_refl _, rfl⟩, by unfold OpL; rw [HR.out]; exact ⟨HS.out, H2.out, H3.out, ⟨H4.out.os, H4.out.tape, H4.out.output, H4.out.size, H4.out.block⟩, H5.out, h6, h7⟩⟩
       · have hnew := resOf_new hr hm
         rw [hnew, List.length_append, List.length_singleton] at hple
         have HR := Hi hnew
         have HM := Hi hm
         simp only [decide_eq_false hm] at hlk
         have hlen := fun nd ty => (hSd nd).len ty
         clear hr hm hnew
         have hgb : ∀ nd, W.grownBy (W.drewN nd) none := fun nd => ⟨rfl, rfl, rfl, Nat.le_refl _, fun _ _ _ => rfl⟩
         obtain ⟨fw, hfw⟩ : ∃ fw : Nat → World, ∀ nd, (Instr.mapUpdate 133 (.map (some wx.heap.size)) (.int .i64 y) (.bool true)).run Tryz.prog (W.drewN nd) = .ok () (fw nd) ∧ SetI (fw nd) wx.heap.size (resOf o pre ++ [y]) ∧ (W.drewN nd).grownBy (fw nd) (some wx.heap.size) :=
           ⟨fun nd => ((hSd nd).put y hyI HM.out h7).choose, fun nd => ((hSd nd).put y hyI HM.out h7).choose_spec⟩
         have hup := fun nd => (hfw nd).1
         have HFW := Hi fun nd => (hfw nd).2
         clear hfw
         by_cases hfar : 1000 < ((resOf o pre).length : Int) + 1
         · gi_wp2_with (first | (refine ⟨trivial, wide_dep _, ?_⟩; gi_at_call 87; refine ((callsIn_wide.2 HP.out).inRound _).mono ?_; rintro e w' ⟨rfl, nd, rfl⟩) | (refine ⟨trivial, wide_dep _, ?_⟩; gi_at_call 82; refine ((callsIn_wide.2 (limit_far _ hfar _)).inRound _).mono ?_; rintro e w' ⟨rfl, rfl⟩))
           exact ⟨rfl, (hkd nd).from _, rfl, by omega, ⟨H4.out.os, H4.out.tape, H4.out.output, H4.out.size, H4.out.block⟩⟩
         · gi_wp2_with (first | (refine ⟨trivial, wide_dep _, ?_⟩; gi_at_call 87; refine ((callsIn_wide.2 HP.out).inRound _).mono ?_; rintro e w' ⟨rfl, nd, rfl⟩) | (refine ⟨trivial, wide_dep _, ?_⟩; gi_at_call 82; refine ((callsIn_wide.2 (limit_ok _ (by omega) _)).inRound _).mono ?_; rintro e w' ⟨rfl, rfl⟩))
           obtain ⟨hS2, hg2⟩ := HFW.out nd
           have zM := HS.out.lt
           have zW := hg2.size
           have hd4 : Below w.heap.size w (W.drewN nd) := ⟨H4.out.os, H4.out.tape, H4.out.output, H4.out.size, H4.out.block⟩
           refine ⟨?_, ⟨fun b hb' => ?_, hg2.size, ?_⟩, ?_⟩
           · refine ((hkd nd).from _).trans ⟨hg2.size, fun k o' hk1 hk2 _ => (hg2.block k (gL hk2) (fun e => by cases e; omega)).trans hk2⟩
           · exact hg2.block b (Nat.lt_of_lt_of_le (hokl b hb') h6) (fun e => by cases e; rw [hok] at hb'; have := hb'.2; omega)
           · exact hg2.block g hc.lt (fun e => by cases e; omega)
           · unfold OpL
             rw [HR.out]
             exact ⟨hS2, (H2.out.kept (hgb nd) (by simp)).kept hg2 (by simp), (H3.out.kept (hgb nd) (by simp)).kept hg2 (by simp; omega), hd4.grown hg2 (by have := H4.out.size; exact this) (fun k e => by cases e; omega),
               fun b hb' => (hg2.block b (Nat.lt_of_lt_of_le (hokl b hb') h6) (fun e => by cases e; rw [hok] at hb'; have := hb'.2; omega)).trans (H5.out b hb'), Nat.le_trans h6 hg2.size, by rw [List.length_append, List.length_singleton]; omega⟩
 have b0 : (w.alloc (.cells #[.int .u8 5, .int .i64 n, .string s, .slice a args.length cap] 24)).heap[w.heap.size]? = some (.cells #[.int .u8 5, .int .i64 n, .string s, .slice a args.length cap] 24 (0, 0)) := World.alloc_heap_new _ _
 gi_wp2
 gi_loopw [3, 17] (fun v i wr => OpI w.heap.size w #[.int .u8 5, .int .i64 n, .string s, .slice a args.length cap] args v i wr) (fun _ i _ => args.length - (intOf i).toNat)
 case atStart => exact ⟨0, [], Nat.zero_le _, rfl, by simp [Tm.expL], rfl, ListsI.nil _ _, (Below.refl _ w).alloc (Nat.le_refl _) _, b0, by simp⟩
 case round =>
   clear b0
   obtain ⟨j, ls, hj, rfl, hE, hjl, hLs, hB, hb, hz⟩ := hrel
   by_cases hlt : j < args.length
   · obtain ⟨bk, off, rfl, hbk', hI⟩ := HA.out (by intro e; rw [e] at hlt; simp at hlt)
     obtain ⟨c0, c1, c2, c3, e0, e1, e2, e3, hc⟩ := hI.at j hlt
     have g0 := (hB.cell (p := ⟨bk, off + j * 4, none⟩) (by show bk < _; omega)).trans e0
     have g1 := (hB.cell (p := ⟨bk, off + j * 4 + 1, none⟩) (by show bk < _; omega)).trans e1
     have g2 := (hB.cell (p := ⟨bk, off + j * 4 + 2, none⟩) (by show bk < _; omega)).trans e2
     have g3 := (hB.cell (p := ⟨bk, off + j * 4 + 3, none⟩) (by show bk < _; omega)).trans e3
     have hih := HIH.out args[j] (List.getElem_mem hlt)
     have hwf := Tm.WfL_mem HWL.out (List.getElem_mem hlt)
     have htk := Tm.expL_take hlt
     rw [hE] at htk
     obtain ⟨u, hq⟩ : ∃ u, args[j] = u := ⟨_, rfl⟩
     rw [hq] at hc hih hwf htk
     obtain ⟨k', n', s', as'⟩ := u
     have hc0 := hc
     simp only [IsTm] at hc
     obtain ⟨rfl, _, rfl, hn', rfl, _, a', cap', rfl, _, _⟩ := hc
     have hA : Below wr.heap.size wr (wr.alloc (.cells #[.int .u8 k', .int .i64 n', .string s', .slice a' as'.length cap'] 24)) := (Below.refl _ wr).alloc (Nat.le_refl _) _
     have hBA := hB.trans (hA.mono hB.size)
     have HC := Hi (hih _ _ _ _ _ ((hc0.below hBA).mono hBA.size) hwf)
     have HLs := Hi hLs
     have HB := Hi hB
     have HT := Hi htk
     have HBB := Hi hb
     have HHA := Hi hA
     clear e0 e1 e2 e3 hih hwf htk hc0 hI hLs hB hA hBA hb hE
     have i1 : (0 : Int) ≤ (j : Int) := by omega
     have i2 : (j : Int) < (args.length : Int) := by omega
     cases hx : (Tm.mk k' n' s' as').exp with
     | none =>
       rw [hx] at HT
       have HN := Hi (Tm.expL_none_take (j + 1) HT.out)
       have HP := Hi (HC.out.mono (R' := fun e W2 => e = .panicked boom ∧ Below (wr.alloc (.cells #[.int .u8 k', .int .i64 n', .string s', .slice a' as'.length cap'] 24)).heap.size (wr.alloc (.cells #[.int .u8 k', .int .i64 n', .string s', .slice a' as'.length cap'] 24)) W2) (by
         rintro e W2 (⟨ts, v2, h1, _⟩ | ⟨_, h2, h3⟩)
         · rw [hx] at h1; cases h1
         · exact ⟨h2, h3⟩))
       clear HC HT hx
       gi_wp2_with (first | (refine ⟨trivial, rfl, ?_⟩; gi_at_call 33; refine (callsIn_wide.2 HP.out).mono ?_; clear HP; rintro e W2 ⟨rfl, h4⟩))
       have z1 := HHA.out.size
       exact .inr ⟨by rw [Tm.exp_op, HN.out]; rfl, rfl, HB.out.trans ((HHA.out.mono HB.out.size).trans (h4.mono (by have := HB.out.size; omega)))⟩
     | some tsj =>
       rw [hx] at HT
       have hts := exp_le hx
       have HP := Hi (HC.out.mono (R' := fun e W2 => ∃ a2 n2 c2, e = .returned (.slice a2 n2 c2) ∧ Vals none (wr.alloc (.cells #[.int .u8 k', .int .i64 n', .string s', .slice a' as'.length cap'] 24)).heap.size W2 (.slice a2 n2 c2) tsj ∧ Below (wr.alloc (.cells #[.int .u8 k', .int .i64 n', .string s', .slice a' as'.length cap'] 24)).heap.size (wr.alloc (.cells #[.int .u8 k', .int .i64 n', .string s', .slice a' as'.length cap'] 24)) W2) (by
         rintro e W2 (⟨ts, v2, h1, h2, h3, h4⟩ | ⟨h1, _⟩)
         · rw [hx] at h1; cases h1
           obtain ⟨a2, n2, c2, rfl⟩ := h3.slice
           exact ⟨a2, n2, c2, h2, h3, h4⟩
         · rw [hx] at h1; cases h1))
       clear HC hx
       obtain ⟨i0, hi, hz0, hz1, hz2⟩ := info_parts info_ints
       obtain ⟨vs, hown, hrows⟩ := HLs.out
       have HOW := Hi hown
       have HRW := Hi hrows
       clear hown hrows
       gi_wp2_with (first | (refine ⟨trivial, rfl, ?_⟩; gi_at_call 33; refine (callsIn_wide.2 HP.out).mono ?_; clear HP; rintro e W2 ⟨a2, n2, c2, rfl, hv2, h4⟩) | (refine ⟨trivial, rfl, ?_⟩; gi_at_call 84; refine (callsIn_wide.2 (integers_any tsj _ _ hv2.tms (by omega))).mono ?_; rintro e W3 ⟨v3, rfl, hn3, h5⟩; obtain ⟨a3, n3, c3, rfl⟩ := hn3.slice) | (gi_at_builtin; refine wpListIn_append_own_at _ rfl _ _ 124 rfl w.heap.size 125 i0 _ 1 24 Tryz.underlying124 hi hz0 hz1 hz2 rfl (by decide) u3 (ls.map intsOf).length vs rfl ?c0 _ 1 1 [.slice a3 n3 c3] rfl rfl ?c1 ?c2 ?c3 ?c4 ?c5 ?_))
       case c2 => simp [Value.oneCell']
       case c3 => rw [List.length_map]; unfold maxLen; omega
       case c4 => rw [List.length_map]; omega
       case c1 => exact cell_one_new _ _ _
       case c5 => have := HHA.out.size; have := h4.size; have := h5.size; simp; omega
       case c0 => exact own_grown (own_grown HOW.out HHA.out) ((h4.trans (h5.mono h4.size)).alloc (Nat.le_trans h4.size h5.size) _)
       intro v' w' hown' hgrow _ hat
       have h45 := h4.trans (h5.mono h4.size)
       have hBel := HHA.out.trans ((h45.alloc h45.size (.cells #[.slice a3 n3 c3] 125)).mono HHA.out.size)
       have hOW := own_grown HOW.out hBel
       have z1 := HHA.out.size
       have z2 := h45.size
       have z3 := hgrow.size
       have z4 := h4.size
       rw [World.size_alloc] at z3
       have hBN : Below w.heap.size w w' := (HB.out.trans (hBel.mono HB.out.size)).grown hgrow (by simp; omega) (fun k e => (HOW.out.lt k e).1)
       have hb' : w'.heap[w.heap.size]? = _ := (hgrow.block w.heap.size (by simp; omega) (fun e => own_not hOW ((hBel.block _ (by omega)).trans HBB.out) (by decide) e.symm)).trans ((hBel.block _ (by omega)).trans HBB.out)
       have hL' : ListsI w.heap.size w' v' (ls.map intsOf ++ [intsOf tsj]) := ListsI.app hOW
         (fun i hi => by
           obtain ⟨u, hu, hR⟩ := HRW.out i hi
           exact ⟨u, hu, hR.keep fun b hf => ⟨⟨hf.1, Nat.lt_of_lt_of_le hf.2.1 hBel.size, hf.2.2⟩, hBel.block b hf.2.1⟩⟩)
         (hn3.rowIn.keep fun b hf => ⟨⟨by omega, by simp; omega, fun e => by have := (HOW.out.lt b e).2; omega⟩, Below.heap_alloc _ _ _ hf.2⟩) (by rw [List.length_map, hjl]; exact hown') hgrow (by rw [World.size_alloc]; exact hat)
       have HF := Hi (show OpI w.heap.size w #[.int .u8 5, .int .i64 n, .string s, .slice (some ⟨bk, off, none⟩) args.length cap] args v' (.int .i64 ((j + 1 : Nat) : Int)) w' from
         ⟨j + 1, ls ++ [tsj], by omega, rfl, by rw [HT.out]; rfl, by simp [hjl], by rw [List.map_append]; exact hL', hBN, hb', by omega⟩)
       clear hown' hgrow hat hBel hOW hBN hb' hL' HRW HOW
       gi_wp2
       go_roundw
       case rel => exact HF.out
       case measure => simp [intOf]; omega
   · have hje : j = args.length := by omega
     subst hje
     rw [List.take_of_length_le (Nat.le_refl _)] at hE
     gi_wp2
     exact ⟨ls, _, _, _, _, _, _, _, _, _, _, _, _, hE, hjl, hLs, hB, hb, hz, rfl⟩
end Go.Proofs.YtlmdhlckgbgfhaaGreatDoor
namespace Go.Proofs.YtlmdhlckgbgfhaaGreatDoor
open Go.RowKit Go.Shelf
attribute [local go_sem] Oper.semAt_some

theorem intsOf_pos {t : Tm} {ts : List Tm} (h : t.kind = 1) : intsOf (t :: ts) = t.num :: intsOf ts := List.filterMap_cons_some (if_pos h)
theorem intsOf_neg {t : Tm} {ts : List Tm} (h : t.kind ≠ 1) : intsOf (t :: ts) = intsOf ts := List.filterMap_cons_none (if_neg h)
theorem intsOf_nums : ∀ l : List Int, intsOf (l.map numT) = l
 | [] => rfl
 | a :: l => by
   rw [List.map_cons, intsOf_pos rfl, intsOf_nums l]; rfl
theorem intsOf_four {α : Type} (f : α → Tm) (hf : ∀ x, (f x).kind ≠ 1) : ∀ l : List α, intsOf (l.map f) = []
 | [] => rfl
 | a :: l => by rw [List.map_cons, intsOf_neg (hf a), intsOf_four f hf l]
theorem spanL_mem {a b n : Int} (h : n ∈ spanL a b) : a ≤ n ∧ n ≤ b := by
 unfold spanL at h
 obtain ⟨i, hi, rfl⟩ := List.mem_map.1 h
 have := List.mem_range.1 hi
 omega
theorem exp_range (t : Tm) : t.Wf → ∀ ts, t.exp = some ts → ∀ n ∈ intsOf ts, -2147483647 ≤ n ∧ n ≤ 2147483647 := by
 induction t using Tm.ind with
 | h k n s us ih =>
   intro hw ts h
   simp only [Tm.Wf] at hw
   obtain ⟨_, _, _, hw6, hw1, hwL⟩ := hw
   by_cases h4 : k = 4
   · subst h4
     rw [Tm.exp_fun, Option.bind_eq_some_iff] at h
     obtain ⟨ls, _, h⟩ := h
     split at h
     · cases h; intro m hm; rw [intsOf_four _ (fun x => by simp [Tm.kind])] at hm; cases hm
     · cases h
   · by_cases h5 : k = 5
     · subst h5
       rw [Tm.exp_op, Option.bind_eq_some_iff] at h
       obtain ⟨ls, _, h⟩ := h
       split at h
       · cases h
       · split at h
         · cases h
           intro m hm
           rw [intsOf_nums] at hm
           obtain ⟨c, _, hc⟩ := resultsI_mem.1 ((List.mem_mergeSort (le := fun x y => decide (x ≤ y))).1 hm)
           exact applyI_range hc
         · cases h
     · by_cases h6 : k = 6
       · subst h6
         rw [Tm.exp_span, Option.bind_eq_some_iff] at h
         obtain ⟨ls, hls, h⟩ := h
         obtain ⟨hl, he⟩ := Tm.expL_some hls
         have h2 := hw6 rfl
         have r := fun i (hi : i < us.length) => ih us[i] (List.getElem_mem hi) (Tm.WfL_mem hwL (List.getElem_mem hi)) _ (he i hi (by omega))
         split at h
         · rename_i a b ha hb
           split at h
           · cases h
             intro m hm
             rw [intsOf_nums] at hm
             have hm := spanL_mem hm
             have q0 : ls.getD 0 [] = ls[0] := by simp [List.getD_eq_getElem?_getD, show 0 < ls.length by omega]
             have q1 : ls.getD 1 [] = ls[1] := by simp [List.getD_eq_getElem?_getD, show 1 < ls.length by omega]
             rw [q0] at ha
             rw [q1] at hb
             have r0 := r 0 (by omega) a (List.mem_of_head? ha)
             have r1 := r 1 (by omega) b (List.mem_of_getLast? hb)
             omega
           · cases h
         · cases h; intro m hm; cases hm
       · rw [Tm.exp_leaf h4 h5 h6] at h
         cases h
         intro m hm
         by_cases h1 : k = 1
         · rw [intsOf_pos (t := .mk k n s []) h1] at hm
           have : m = n := by have h3 : m = (Tm.mk k n s []).num := by simpa [intsOf] using hm
                              exact h3
           rw [this]; exact hw1 h1
         · rw [intsOf_neg (t := .mk k n s []) h1] at hm; cases hm

theorem expL_none0 {t0 t1 : Tm} (h : t0.exp = none) : Tm.expL [t0, t1] = none := by simp [Tm.expL, h]
theorem expL_none1 {t0 t1 : Tm} (h : t1.exp = none) : Tm.expL [t0, t1] = none := by cases h0 : t0.exp <;> simp [Tm.expL, h, h0]
theorem expL_two {t0 t1 : Tm} {a b : List Tm} (h : t0.exp = some a) (k : t1.exp = some b) : Tm.expL [t0, t1] = some [a, b] := by simp [Tm.expL, h, k]
def FnR (a0 o0 a1 o1 : Nat) (n0 c0 n1 c1 : Nat) (x y : Int) : Facts := fun i v _ => match i with
 | 0 => v = .slice (some ⟨a0, o0, none⟩) n0 c0
 | 1 => v = .pointer (some ⟨a0, o0, none⟩)
 | 2 | 9 => v = .int .i64 x
 | 3 | 4 => v = .slice (some ⟨a1, o1, none⟩) n1 c1
 | 5 => v = .int .i64 n1
 | 6 => v = .int .i64 ((n1 : Int) - 1)
 | 7 => v = .pointer (some ⟨a1, o1 + (n1 - 1), none⟩)
 | 8 => v = .int .i64 y
 | _ => True
theorem FnR_grow (a0 o0 a1 o1 : Nat) (n0 c0 n1 c1 : Nat) (x y : Int) (i : Nat) (v : Value) (w w' : World) (h : FnR a0 o0 a1 o1 n0 c0 n1 c1 x y i v w) (_ : Below w.heap.size w w') : FnR a0 o0 a1 o1 n0 c0 n1 c1 x y i v w' := by
 match i with
 | 0 | 1 | 2 | 3 | 4 | 5 | 6 | 7 | 8 | 9 => exact h
 | i + 10 => trivial
def FnS (H N bk off cap : Nat) (A0 A1 : Value) (t0 t1 : Tm) : Facts := fun i v w => match i with
 | 0 | 6 => v = .pointer (some ⟨N, 3, none⟩)
 | 1 | 7 => v = .slice (some ⟨bk, off, none⟩) 2 cap
 | 2 => v = .pointer (some ⟨bk, off, none⟩)
 | 8 => v = .pointer (some ⟨bk, off + 4, none⟩)
 | 3 => v = A0
 | 9 => v = A1
 | 4 => ∃ ts, t0.exp = some ts ∧ RowV w v ts
 | 10 => ∃ ts, t1.exp = some ts ∧ RowV w v ts
 | 5 => ∃ ts, t0.exp = some ts ∧ Nums H w v (intsOf ts)
 | 11 => ∃ ts, t1.exp = some ts ∧ Nums H w v (intsOf ts)
 | _ => True
theorem FnS_grow (H N bk off cap : Nat) (A0 A1 : Value) (t0 t1 : Tm) (i : Nat) (v : Value) (w w' : World) (h : FnS H N bk off cap A0 A1 t0 t1 i v w) (hb : Below w.heap.size w w') : FnS H N bk off cap A0 A1 t0 t1 i v w' := by
 match i with
 | 0 | 1 | 2 | 3 | 6 | 7 | 8 | 9 => exact h
 | 4 | 10 =>
   obtain ⟨ts, h1, h2⟩ := h
   exact ⟨ts, h1, h2.grow hb⟩
 | 5 | 11 =>
   obtain ⟨ts, h1, h2⟩ := h
   exact ⟨ts, h1, h2.grow hb⟩
 | i + 12 => trivial

theorem span_any (n : Int) (s : ByteArray) (args : List Tm) (IH : ∀ u ∈ args, ExpAt u) (c0 c1 c2 c3 : Value) (w : World) (h : IsTm w.heap.size w c0 c1 c2 c3 (.mk 6 n s args)) (hw : (Tm.mk 6 n s args).Wf) :
   Calls Tryz.prog 61 #[.agg #[c0, c1, c2, c3]] w (ExpPost (.mk 6 n s args) w) := by
 simp only [IsTm] at h
 obtain ⟨rfl, _, rfl, hn, rfl, hss, a, cap, rfl, hl, ha⟩ := h
 simp only [Tm.Wf] at hw
 obtain ⟨hw8, _, _, hw6, _, hwL⟩ := hw
 have h2 := hw6 trivial
 obtain ⟨t0, t1, rfl⟩ : ∃ t0 t1, args = [t0, t1] := by
   match args, h2 with
   | [t0, t1], _ => exact ⟨t0, t1, rfl⟩
 obtain ⟨bk, off, rfl, hbk, hi⟩ := ha (by simp)
 simp only [IsTms] at hi
 obtain ⟨d0, d1, d2, d3, g00, g01, g02, g03, ht0, e0, e1, e2, e3, g10, g11, g12, g13, ht1, _⟩ := hi
 have hf0 := Tm.WfL_mem hwL (t := t0) (by simp)
 have hf1 := Tm.WfL_mem hwL (t := t1) (by simp)
 have I0 := IH t0 (by simp)
 have I1 := IH t1 (by simp)
 have b0 : (w.alloc (.cells #[.int .u8 6, .int .i64 n, .string s, .slice (some ⟨bk, off, none⟩) 2 cap] 24)).heap[w.heap.size]? = some (.cells #[.int .u8 6, .int .i64 n, .string s, .slice (some ⟨bk, off, none⟩) 2 cap] 24 (0, 0)) := World.alloc_heap_new _ _
 have mixed : Tryz.prog.follows .mixedOrders = true := by kernel_rfl
 refine callsIn_wide.1 (callsIn_of_wp (n := 0) Tryz.func61 rfl trivial ?_ rfl)
 simp only [Tryz.ntmps61, List.size_toArray, List.length_cons, List.length_nil, Nat.reduceAdd, Nat.reduceSub, Array.replicate_succ, Array.replicate_zero, List.push_toArray, List.append_toArray, List.nil_append, List.cons_append]
 gi_wp2_with fail
 refine wpIn_region_head mixed 12 (FnS w.heap.size w.heap.size bk off cap (.agg #[d0, d1, d2, d3]) (.agg #[e0, e1, e2, e3]) t0 t1) (FnS_grow _ _ _ _ _ _ _ _ _) (by kernel_rfl) (by kernel_rfl) (steps_in ⟨?_, ?_, ?_, ?_, ?_, ?_, ?_, ?_, ?_, ?_, ?_, ?_, trivial⟩) ?_
 · intro a2 wx hb2 hd hs ho2 hp
   refine ⟨rfl, ?_⟩
   have q1 : a2.tmps.getD 1 undef = _ := (ho2 1 (by kernel_rfl)).trans rfl
   unfold Oper.wpIn
   refine ⟨fun _ _ => trivial, ?_⟩
   go_simp
   exact Stepped.at rfl hd bR rfl
 · intro a2 wx hb2 hd hs ho2 hp
   refine ⟨rfl, ?_⟩
   have q9 : a2.tmps.getD 9 undef = .pointer (some ⟨w.heap.size, 3, none⟩) := facts_at hp 0 9 (by kernel_rfl)
   have x0 := cells_at ((hb2.block w.heap.size (by simp)).trans b0) 3 _ rfl
   unfold Oper.wpIn
   refine ⟨fun _ _ => trivial, ?_⟩
   go_simp
   exact Stepped.at rfl hd bR rfl
 · intro a2 wx hb2 hd hs ho2 hp
   refine ⟨rfl, ?_⟩
   have q10 : a2.tmps.getD 10 undef = .slice (some ⟨bk, off, none⟩) 2 cap := facts_at hp 1 10 (by kernel_rfl)
   unfold Oper.wpIn
   refine ⟨fun _ _ => trivial, ?_⟩
   go_simp
   exact Stepped.at (v := .pointer (some ⟨bk, off, none⟩)) rfl hd bR rfl
 · intro a2 wx hb2 hd hs ho2 hp
   refine ⟨rfl, ?_⟩
   have q11 : a2.tmps.getD 11 undef = .pointer (some ⟨bk, off, none⟩) := facts_at hp 2 11 (by kernel_rfl)
   have hbw : Below w.heap.size w wx := ((Below.refl _ w).alloc (Nat.le_refl _) _).trans (hb2.mono (by simp))
   have x0 := (hbw.cell (p := ⟨bk, off, none⟩) (by show bk < _; omega)).trans g00
   have x1 := (hbw.cell (p := ⟨bk, off + 1, none⟩) (by show bk < _; omega)).trans g01
   have x2 := (hbw.cell (p := ⟨bk, off + 2, none⟩) (by show bk < _; omega)).trans g02
   have x3 := (hbw.cell (p := ⟨bk, off + 3, none⟩) (by show bk < _; omega)).trans g03
   unfold Oper.wpIn
   refine ⟨fun _ _ => trivial, ?_⟩
   go_simp
   exact Stepped.at (v := .agg #[d0, d1, d2, d3]) rfl hd bR rfl
 · intro a2 wx hb2 hd hs ho2 hp
   refine ⟨rfl, ?_⟩
   have q12 : a2.tmps.getD 12 undef = .agg #[d0, d1, d2, d3] := facts_at hp 3 12 (by kernel_rfl)
   have hbw : Below w.heap.size w wx := ((Below.refl _ w).alloc (Nat.le_refl _) _).trans (hb2.mono (by simp))
   have HC := Hi (I0 _ _ _ _ wx ((ht0.below hbw).mono hbw.size) hf0)
   unfold Oper.wpIn
   refine ⟨fun _ _ => trivial, ?_⟩
   go_simp
   refine ⟨rfl, (callsIn_wide.2 HC.out).mono ?_⟩
   rintro e w2 (⟨ts, v2, r1, rfl, r3, r4⟩ | ⟨r1, rfl, r4⟩)
   · exact Stepped.at (v := v2) rfl hd r4 ⟨ts, r1, r3.tms⟩
   · exact ⟨hd, .inr ⟨by rw [Tm.exp_span, expL_none0 r1]; rfl, rfl, hbw.trans (r4.mono hbw.size)⟩⟩
 · intro a2 wx hb2 hd hs ho2 hp
   refine ⟨rfl, ?_⟩
   obtain ⟨u, hu⟩ : ∃ u, a2.tmps.getD 13 undef = u := ⟨_, rfl⟩
   obtain ⟨ts, r1, r2⟩ : FnS w.heap.size w.heap.size bk off cap (.agg #[d0, d1, d2, d3]) (.agg #[e0, e1, e2, e3]) t0 t1 4 u wx := hu ▸ facts_at hp 4 13 (by kernel_rfl)
   have hbw : Below w.heap.size w wx := ((Below.refl _ w).alloc (Nat.le_refl _) _).trans (hb2.mono (by simp))
   have HC := Hi (integers_any ts u wx r2 (by have := exp_le r1; omega))
   unfold Oper.wpIn
   refine ⟨fun _ _ => trivial, ?_⟩
   go_simp
   refine ⟨rfl, (callsIn_wide.2 HC.out).mono ?_⟩
   rintro e w2 ⟨v2, rfl, r3, r4⟩
   exact Stepped.at (v := v2) rfl hd r4 ⟨ts, r1, ownsRow_lower' r3 hbw.size⟩
 · intro a2 wx hb2 hd hs ho2 hp
   refine ⟨rfl, ?_⟩
   have q1 : a2.tmps.getD 1 undef = _ := (ho2 1 (by kernel_rfl)).trans rfl
   unfold Oper.wpIn
   refine ⟨fun _ _ => trivial, ?_⟩
   go_simp
   exact Stepped.at rfl hd bR rfl
 · intro a2 wx hb2 hd hs ho2 hp
   refine ⟨rfl, ?_⟩
   have q9 : a2.tmps.getD 15 undef = .pointer (some ⟨w.heap.size, 3, none⟩) := facts_at hp 6 15 (by kernel_rfl)
   have x0 := cells_at ((hb2.block w.heap.size (by simp)).trans b0) 3 _ rfl
   unfold Oper.wpIn
   refine ⟨fun _ _ => trivial, ?_⟩
   go_simp
   exact Stepped.at rfl hd bR rfl
 · intro a2 wx hb2 hd hs ho2 hp
   refine ⟨rfl, ?_⟩
   have q10 : a2.tmps.getD 16 undef = .slice (some ⟨bk, off, none⟩) 2 cap := facts_at hp 7 16 (by kernel_rfl)
   unfold Oper.wpIn
   refine ⟨fun _ _ => trivial, ?_⟩
   go_simp
   exact Stepped.at (v := .pointer (some ⟨bk, off + 4, none⟩)) rfl hd bR rfl
 · intro a2 wx hb2 hd hs ho2 hp
   refine ⟨rfl, ?_⟩
   have q11 : a2.tmps.getD 17 undef = .pointer (some ⟨bk, off + 4, none⟩) := facts_at hp 8 17 (by kernel_rfl)
   have hbw : Below w.heap.size w wx := ((Below.refl _ w).alloc (Nat.le_refl _) _).trans (hb2.mono (by simp))
   have x0 := (hbw.cell (p := ⟨bk, off + 4, none⟩) (by show bk < _; omega)).trans g10
   have x1 := (hbw.cell (p := ⟨bk, off + 4 + 1, none⟩) (by show bk < _; omega)).trans g11
   have x2 := (hbw.cell (p := ⟨bk, off + 4 + 2, none⟩) (by show bk < _; omega)).trans g12
   have x3 := (hbw.cell (p := ⟨bk, off + 4 + 3, none⟩) (by show bk < _; omega)).trans g13
   unfold Oper.wpIn
   refine ⟨fun _ _ => trivial, ?_⟩
   go_simp
   exact Stepped.at (v := .agg #[e0, e1, e2, e3]) rfl hd bR rfl
 · intro a2 wx hb2 hd hs ho2 hp
   refine ⟨rfl, ?_⟩
   have q12 : a2.tmps.getD 18 undef = .agg #[e0, e1, e2, e3] := facts_at hp 9 18 (by kernel_rfl)
   have hbw : Below w.heap.size w wx := ((Below.refl _ w).alloc (Nat.le_refl _) _).trans (hb2.mono (by simp))
   have HC := Hi (I1 _ _ _ _ wx ((ht1.below hbw).mono hbw.size) hf1)
   unfold Oper.wpIn
   refine ⟨fun _ _ => trivial, ?_⟩
   go_simp
   refine ⟨rfl, (callsIn_wide.2 HC.out).mono ?_⟩
   rintro e w2 (⟨ts, v2, r1, rfl, r3, r4⟩ | ⟨r1, rfl, r4⟩)
   · exact Stepped.at (v := v2) rfl hd r4 ⟨ts, r1, r3.tms⟩
   · exact ⟨hd, .inr ⟨by rw [Tm.exp_span, expL_none1 r1]; rfl, rfl, hbw.trans (r4.mono hbw.size)⟩⟩
 · intro a2 wx hb2 hd hs ho2 hp
   refine ⟨rfl, ?_⟩
   obtain ⟨u, hu⟩ : ∃ u, a2.tmps.getD 19 undef = u := ⟨_, rfl⟩
   obtain ⟨ts, r1, r2⟩ : FnS w.heap.size w.heap.size bk off cap (.agg #[d0, d1, d2, d3]) (.agg #[e0, e1, e2, e3]) t0 t1 10 u wx := hu ▸ facts_at hp 10 19 (by kernel_rfl)
   have hbw : Below w.heap.size w wx := ((Below.refl _ w).alloc (Nat.le_refl _) _).trans (hb2.mono (by simp))
   have HC := Hi (integers_any ts u wx r2 (by have := exp_le r1; omega))
   unfold Oper.wpIn
   refine ⟨fun _ _ => trivial, ?_⟩
   go_simp
   refine ⟨rfl, (callsIn_wide.2 HC.out).mono ?_⟩
   rintro e w2 ⟨v2, rfl, r3, r4⟩
   exact Stepped.at (v := v2) rfl hd r4 ⟨ts, r1, ownsRow_lower' r3 hbw.size⟩
 intro m' a2 wx hb2 hd hs ho2 hf
 obtain ⟨u, hu⟩ : ∃ u, a2.tmps.getD 14 undef = u := ⟨_, rfl⟩
 obtain ⟨ts0, r0, N0⟩ : FnS w.heap.size w.heap.size bk off cap (.agg #[d0, d1, d2, d3]) (.agg #[e0, e1, e2, e3]) t0 t1 5 u wx := hu ▸ facts_to hf 5 14 (by decide) (by kernel_rfl)
 obtain ⟨v, hv⟩ : ∃ v, a2.tmps.getD 20 undef = v := ⟨_, rfl⟩
 obtain ⟨ts1, r1, N1⟩ : FnS w.heap.size w.heap.size bk off cap (.agg #[d0, d1, d2, d3]) (.agg #[e0, e1, e2, e3]) t0 t1 11 v wx := hv ▸ facts_to hf 11 20 (by decide) (by kernel_rfl)
 have k2 : a2.tmps.getD 2 undef = .slice none 0 0 := (ho2 2 (by kernel_rfl)).trans rfl
 have R0 := exp_range t0 hf0 ts0 r0
 have R1 := exp_range t1 hf1 ts1 r1
 have z0 := exp_le r0
 have z1 := exp_le r1
 have y0 := intsOf_le ts0
 have y1 := intsOf_le ts1
 have hEx : (Tm.mk 6 n s [t0, t1]).exp = match (intsOf ts0).head?, (intsOf ts1).getLast? with
     | some a, some b => if b - a + 1 ≤ 1000 then some ((spanL a b).map numT) else none
     | _, _ => some [] := by rw [Tm.exp_span, expL_two r0 r1]; rfl
 have hbw : Below w.heap.size w wx := ((Below.refl _ w).alloc (Nat.le_refl _) _).trans (hb2.mono (by simp))
 clear hf I0 I1 r0 r1 IH ha ht0 ht1 g00 g01 g02 g03 g10 g11 g12 g13 b0 hb2
 obtain ⟨l0, hl0⟩ : ∃ l, intsOf ts0 = l := ⟨_, rfl⟩
 obtain ⟨l1, hl1⟩ : ∃ l, intsOf ts1 = l := ⟨_, rfl⟩
 rw [hl0] at N0 R0 y0 hEx
 rw [hl1] at N1 R1 y1 hEx
 obtain ⟨T, D⟩ := a2
 simp only at hd hs hu hv k2
 subst hd
 have hE2 := slots_all T 55 (hs.trans rfl)
 simp only [List.range, List.range.loop, List.map, hu, hv, k2] at hE2
 rw [hE2]
 clear hE2 hu hv k2 ho2 hs hl0 hl1
 have HE := Hi hEx
 have HB := Hi hbw
 have HN0 := Hi N0
 have HN1 := Hi N1
 obtain ⟨i0, c0, rfl, _, p0⟩ := Nums.intV N0
 obtain ⟨i1, c1, rfl, _, p1⟩ := Nums.intV N1
 have P0 := Hi p0
 have P1 := Hi p1
 clear hEx hbw N0 N1 p0 p1
 refine any_one (i := 12) (by kernel_rfl) rfl ?_
 gi_wp2
 refine any_one (i := 13) (by kernel_rfl) rfl ?_
 gi_wp2
 refine wpAnyIn_done (by kernel_rfl) ?_ _
 by_cases h0 : l0.length = 0
 · have e : (((l0.length : Nat) : Int) == 0) = true := by simpa using h0
   gi_wp2
   go_ret
   have hnil := List.length_eq_zero_iff.1 h0
   exact .inl ⟨[], _, by rw [HE.out, hnil]; rfl, rfl, Vals.nil _ _ _, HB.out⟩
 · have e : (((l0.length : Nat) : Int) == 0) = false := by simpa using h0
   by_cases h1 : l1.length = 0
   · have e' : (((l1.length : Nat) : Int) == 0) = true := by simpa using h1
     gi_wp2
     go_ret
     have hnil := List.length_eq_zero_iff.1 h1
     exact .inl ⟨[], _, by rw [HE.out, hnil]; cases l0.head? <;> rfl, rfl, Vals.nil _ _ _, HB.out⟩
   · have e' : (((l1.length : Nat) : Int) == 0) = false := by simpa using h1
     gi_wp2
     obtain ⟨a0, o0, rfl, ha0, hc0⟩ := P0.out (fun e => h0 (by rw [e]; rfl))
     obtain ⟨a1, o1, rfl, ha1, hc1⟩ := P1.out (fun e => h1 (by rw [e]; rfl))
     obtain ⟨x, hx⟩ : ∃ x, l0[0]'(by omega) = x := ⟨_, rfl⟩
     obtain ⟨y, hy⟩ : ∃ y, l1[l1.length - 1]'(by omega) = y := ⟨_, rfl⟩
     have g0 : wx.cell? ⟨a0, o0, none⟩ = some (.int .i64 x) := by rw [← hx]; exact hc0 0 (by omega)
     have g1 : wx.cell? ⟨a1, o1 + (l1.length - 1), none⟩ = some (.int .i64 y) := by rw [← hy]; exact hc1 (l1.length - 1) (by omega)
     have rx := R0 x (by rw [← hx]; exact List.getElem_mem _)
     have ry := R1 y (by rw [← hy]; exact List.getElem_mem _)
     have hE2 : (Tm.mk 6 n s [t0, t1]).exp = if y - x + 1 ≤ 1000 then some ((spanL x y).map numT) else none := by
       rw [HE.out, List.head?_eq_getElem?, List.getElem?_eq_getElem (by omega), hx, List.getLast?_eq_getElem?, List.getElem?_eq_getElem (by omega), hy]
     have k0 : 0 < l0.length := by omega
     have k1 : (1 : Int) ≤ (l1.length : Int) := by omega
     clear P0 P1 hc0 hc1 hx hy R0 R1 HE
     have HE := Hi hE2
     clear hE2
     refine wpIn_region_head mixed 10 (FnR a0 o0 a1 o1 l0.length c0 l1.length c1 x y) (FnR_grow _ _ _ _ _ _ _ _ _ _) (by kernel_rfl) (by kernel_rfl) (steps_in ⟨?_, ?_, ?_, ?_, ?_, ?_, ?_, ?_, ?_, ?_, trivial⟩) ?_
     · intro a2 wy hb2 hd hs ho2 hp
       refine ⟨rfl, ?_⟩
       have q : a2.tmps.getD 3 undef = .slice (some ⟨a0, o0, none⟩) l0.length c0 := (ho2 3 (by kernel_rfl)).trans rfl
       unfold Oper.wpIn
       refine ⟨fun _ _ => trivial, ?_⟩
       go_simp
       exact Stepped.at rfl hd bR rfl
     · intro a2 wy hb2 hd hs ho2 hp
       refine ⟨rfl, ?_⟩
       have q : a2.tmps.getD 29 undef = .slice (some ⟨a0, o0, none⟩) l0.length c0 := facts_at hp 0 29 (by kernel_rfl)
       unfold Oper.wpIn
       refine ⟨fun _ _ => trivial, ?_⟩
       go_simp
       exact Stepped.at (v := .pointer (some ⟨a0, o0, none⟩)) rfl hd bR rfl
     · intro a2 wy hb2 hd hs ho2 hp
       refine ⟨rfl, ?_⟩
       have q : a2.tmps.getD 30 undef = .pointer (some ⟨a0, o0, none⟩) := facts_at hp 1 30 (by kernel_rfl)
       have x0 := (hb2.cell (p := ⟨a0, o0, none⟩) (by show a0 < _; omega)).trans g0
       unfold Oper.wpIn
       refine ⟨fun _ _ => trivial, ?_⟩
       go_simp
       exact Stepped.at rfl hd bR rfl
     · intro a2 wy hb2 hd hs ho2 hp
       refine ⟨rfl, ?_⟩
       have q : a2.tmps.getD 4 undef = .slice (some ⟨a1, o1, none⟩) l1.length c1 := (ho2 4 (by kernel_rfl)).trans rfl
       unfold Oper.wpIn
       refine ⟨fun _ _ => trivial, ?_⟩
       go_simp
       exact Stepped.at rfl hd bR rfl
     · intro a2 wy hb2 hd hs ho2 hp
       refine ⟨rfl, ?_⟩
       have q : a2.tmps.getD 4 undef = .slice (some ⟨a1, o1, none⟩) l1.length c1 := (ho2 4 (by kernel_rfl)).trans rfl
       unfold Oper.wpIn
       refine ⟨fun _ _ => trivial, ?_⟩
       go_simp
       exact Stepped.at rfl hd bR rfl
     · intro a2 wy hb2 hd hs ho2 hp
       refine ⟨rfl, ?_⟩
       have q : a2.tmps.getD 33 undef = .slice (some ⟨a1, o1, none⟩) l1.length c1 := facts_at hp 4 33 (by kernel_rfl)
       unfold Oper.wpIn
       refine ⟨fun _ _ => trivial, ?_⟩
       go_simp
       exact Stepped.at rfl hd bR rfl
     · intro a2 wy hb2 hd hs ho2 hp
       refine ⟨rfl, ?_⟩
       have q : a2.tmps.getD 34 undef = .int .i64 l1.length := facts_at hp 5 34 (by kernel_rfl)
       have kw : IntKind.i64.wrap ((l1.length : Int) - 1) = (l1.length : Int) - 1 := by rw [IntKind.wrap_i64]; omega
       unfold Oper.wpIn
       refine ⟨fun _ _ => trivial, ?_⟩
       go_simp
       exact Stepped.at (v := .int .i64 ((l1.length : Int) - 1)) rfl hd bR rfl
     · intro a2 wy hb2 hd hs ho2 hp
       refine ⟨rfl, ?_⟩
       have q : a2.tmps.getD 32 undef = .slice (some ⟨a1, o1, none⟩) l1.length c1 := facts_at hp 3 32 (by kernel_rfl)
       have q2 : a2.tmps.getD 35 undef = .int .i64 ((l1.length : Int) - 1) := facts_at hp 6 35 (by kernel_rfl)
       have k3' : (0 : Int) ≤ (l1.length : Int) - 1 := by omega
       have k2 : (l1.length : Int) - 1 < (l1.length : Int) := by omega
       have k3 : ((l1.length : Int) - 1).toNat = l1.length - 1 := by omega
       unfold Oper.wpIn
       refine ⟨fun _ _ => trivial, ?_⟩
       go_simp
       exact Stepped.at (v := .pointer (some ⟨a1, o1 + (l1.length - 1), none⟩)) rfl hd bR rfl
     · intro a2 wy hb2 hd hs ho2 hp
       refine ⟨rfl, ?_⟩
       have q : a2.tmps.getD 36 undef = .pointer (some ⟨a1, o1 + (l1.length - 1), none⟩) := facts_at hp 7 36 (by kernel_rfl)
       have x0 := (hb2.cell (p := ⟨a1, o1 + (l1.length - 1), none⟩) (by show a1 < _; omega)).trans g1
       unfold Oper.wpIn
       refine ⟨fun _ _ => trivial, ?_⟩
       go_simp
       exact Stepped.at rfl hd bR rfl
     · intro a2 wy hb2 hd hs ho2 hp
       refine ⟨rfl, ?_⟩
       have q : a2.tmps.getD 31 undef = .int .i64 x := facts_at hp 2 31 (by kernel_rfl)
       unfold Oper.wpIn
       refine ⟨fun _ _ => trivial, ?_⟩
       go_simp
       exact Stepped.at rfl hd bR rfl
     intro m2 a2 wy hb2 hd hs ho2 hf
     have k37 : a2.tmps.getD 37 undef = .int .i64 y := facts_to hf 8 37 (by decide) (by kernel_rfl)
     have k5 : a2.tmps.getD 5 undef = .int .i64 x := facts_to hf 9 5 (by decide) (by kernel_rfl)
     clear hf
     obtain ⟨T2, D⟩ := a2
     simp only at hd hs k37 k5
     subst hd
     have hE2 := slots_all T2 55 (hs.trans rfl)
     simp only [List.range, List.range.loop, List.map, k37, k5] at hE2
     rw [hE2]
     clear hE2 k37 k5 ho2 hs
     have hBy := HB.out.trans (hb2.mono HB.out.size)
     refine any_one (i := 10) (by kernel_rfl) rfl ?_
     gi_wp2
     refine wpAnyIn_done (by kernel_rfl) ?_ _
     by_cases hfar : 1000 < y - x + 1
     · gi_wp2_with (first | (refine ⟨trivial, rfl, ?_⟩; gi_at_call 82; refine (callsIn_wide.2 (limit_far _ hfar _)).mono ?_; rintro e w' ⟨rfl, rfl⟩))
       exact ⟨rfl, .inr ⟨by rw [HE.out, if_neg (by omega)], rfl, hBy⟩⟩
     · gi_wp2_with (first | (refine ⟨trivial, rfl, ?_⟩; gi_at_call 82; refine (callsIn_wide.2 (limit_ok _ (by omega) _)).mono ?_; rintro e w' ⟨rfl, rfl⟩))
       rw [if_pos (by omega)] at HE
       have hsp : (spanL x y).length = (y - x + 1).toNat := spanL_length x y
       have hsg : ∀ j (h : j < (spanL x y).length), (spanL x y)[j] = x + (j : Int) := fun j h => by simp [spanL]
       obtain ⟨L, hLd⟩ : ∃ L, spanL x y = L := ⟨_, rfl⟩
       rw [hLd] at hsp
       have HSG := Hi (show ∀ j (h : j < L.length), L[j] = x + (j : Int) by subst hLd; exact hsg)
       rw [hLd] at HE
       have HSP := Hi hsp
       clear hsg hLd hsp
       gi_loopw [7, 8] (fun v7 i wl => ∃ j : Nat, j ≤ L.length ∧ i = .int .i64 (x + (j : Int)) ∧ Vals none wy.heap.size wl v7 ((L.take j).map numT) ∧ Below wy.heap.size wy wl) (fun _ i _ => (y + 1 - intOf i).toNat)
       case atStart => exact ⟨0, Nat.zero_le _, by simp, Vals.nil _ _ _, Below.refl _ _⟩
       case round =>
         obtain ⟨j, hj, rfl, hV, hBl⟩ := hrel
         have HBL := Hi hBl
         have hjy : (j : Int) ≤ y - x + 1 ∨ j = 0 := by have := HSP.out; omega
         by_cases hlt : j < L.length
         · have hxj : x + (j : Int) ≤ y := by have := HSP.out; omega
           have hxI : I64 (x + (j : Int)) := by
             unfold I64 Lit.wf
             simp only [Bool.and_eq_true, decide_eq_true_eq]
             exact ⟨by show -9223372036854775808 ≤ x + (j : Int); omega, by show x + (j : Int) ≤ 9223372036854775807; omega⟩
           obtain ⟨xs, hO, hH, _⟩ := hV
           have HO := Hi hO
           have HH := Hi hH
           have HT := Hi (show (L.take (j + 1)).map numT = (L.take j).map numT ++ [numT (x + (j : Int))] by rw [List.take_succ_eq_append_getElem hlt, List.map_append, HSG.out j hlt]; rfl)
           have htl : ((L.take j).map numT).length = j := by simp; omega
           obtain ⟨TS, hTS⟩ : ∃ TS, (L.take j).map numT = TS := ⟨_, rfl⟩
           rw [hTS] at htl HT HO HH
           clear hTS
           have hL7 : L.length ≤ 1000 := by have := HSP.out; omega
           obtain ⟨z, hz⟩ : ∃ z, x + (j : Int) = z := ⟨_, rfl⟩
           rw [hz] at hxj hxI HT
           obtain ⟨i0, hi, hz0, hz1, hz2⟩ := info_parts info_term
           rw [hz]
           clear hO hH hBl
           have hzr : -2147483647 ≤ z ∧ z ≤ 2147483647 := by omega
           gi_wp2_with (first | (refine ⟨trivial, rfl, ?_⟩; gi_at_call 90; refine (callsIn_wide.2 (integer_any z _)).mono ?_; rintro e W3 ⟨rfl, hb3⟩) | (gi_at_builtin; refine wpListIn_append_own_at _ rfl _ _ 22 rfl wy.heap.size 24 i0 _ 4 56 Tryz.underlying22 hi hz0 hz1 hz2 rfl (by decide) u7 TS.length xs rfl ?c0 _ 1 1 [.int .u8 1, .int .i64 z, .string ⟨#[]⟩, .slice none 0 0] rfl rfl ?c1 ?c2 ?c3 ?c4 ?c5 ?_))
           case c2 => simp [Value.oneCell']
           case c3 => unfold maxLen; omega
           case c4 => omega
           case c5 => have := HBL.out.size; have := hb3.size; simp; omega
           case c1 =>
             intro jj u' hu'
             have hn := World.alloc_heap_new W3 (.cells #[.int .u8 1, .int .i64 z, .string ⟨#[]⟩, .slice none 0 0] 24)
             rcases jj with _ | _ | _ | _ | jj
             · cases hu'; exact cells_at hn 0 _ rfl
             · cases hu'; exact cells_at hn 1 _ rfl
             · cases hu'; exact cells_at hn 2 _ rfl
             · cases hu'; exact cells_at hn 3 _ rfl
             · simp at hu'
           case c0 => exact own_grown HO.out (hb3.alloc hb3.size _)
           intro v' w' hown' hgrow _ hat
           have hBA := hb3.alloc hb3.size (.cells #[.int .u8 1, .int .i64 z, .string ⟨#[]⟩, .slice none 0 0] 24)
           have zA := hBA.size
           have zL := HBL.out.size
           have hV' : Vals none wy.heap.size w' v' (TS ++ [numT z]) := Vals.app (ts := TS) (us := [numT z]) (HH.out.keep fun b hf => ⟨⟨hf.1, Nat.lt_of_lt_of_le hf.2.1 zA, hf.2.2⟩, hBA.block b hf.2.1⟩) (fun g e => by cases e)
             (HoldL.one (by
               unfold numT
               simp only [IsTmIn]
               exact ⟨rfl, by omega, rfl, hxI, rfl, by show 0 ≤ maxLen; exact Nat.zero_le _, none, 0, rfl, by simp, fun h => absurd rfl h⟩)) (by rw [htl]; exact hown') hgrow (by rw [World.size_alloc]; exact hat)
           have hBw : Below wy.heap.size wy w' := (HBL.out.trans (hBA.mono zL)).grown hgrow (by omega) (fun k e => (HO.out.lt k e).1)
           have HF := Hi (show ∃ j' : Nat, j' ≤ L.length ∧ (Value.int .i64 (z + 1)) = .int .i64 (x + (j' : Int)) ∧ Vals none wy.heap.size w' v' ((L.take j').map numT) ∧ Below wy.heap.size wy w' from ⟨j + 1, by omega, by rw [← hz]; congr 1; omega, by rw [HT.out]; exact hV', hBw⟩)
           clear hown' hgrow hat hBA hV' hBw HH HO HT
           gi_wp2
           go_roundw
           case rel => exact HF.out
           case measure => simp [intOf]; omega
         · have hje : j = L.length := by omega
           have hxj : y < x + (j : Int) := by have := HSP.out; omega
           rw [hje, List.take_of_length_le (Nat.le_refl _)] at hV
           have HV := Hi hV
           clear hV hBl
           obtain ⟨z, hz⟩ : ∃ z, x + (j : Int) = z := ⟨_, rfl⟩
           rw [hz] at hxj
           rw [hz]
           gi_wp2
           go_ret
           exact .inl ⟨_, _, HE.out, rfl, HV.out.lower (by have := hBy.size; omega), hBy.trans (HBL.out.mono (by have := hBy.size; omega))⟩
end Go.Proofs.YtlmdhlckgbgfhaaGreatDoor
namespace Go.Proofs.YtlmdhlckgbgfhaaGreatDoor
open Go.RowKit Go.Shelf
attribute [local go_sem] Oper.semAt_some

theorem ExpPost.from {t : Tm} {w w1 w2 : World} {e : Ending} (h : ExpPost t w1 e w2) (hb : Below w.heap.size w w1) : ExpPost t w e w2 := by
 rcases h with ⟨ts, v, h1, h2, h3, h4⟩ | ⟨h1, h2, h4⟩
 · exact .inl ⟨ts, v, h1, h2, h3.lower hb.size, hb.trans (h4.mono hb.size)⟩
 · exact .inr ⟨h1, h2, hb.trans (h4.mono hb.size)⟩

theorem expand_any (t : Tm) : ExpAt t := by
 induction t using Tm.ind with
 | h k n s us ih =>
   intro c0 c1 c2 c3 w h hw
   have h0 := h
   simp only [IsTm] at h
   obtain ⟨rfl, hk, rfl, hn, rfl, hss, a, cap, rfl, hl, ha⟩ := h
   have hB1 : Below w.heap.size w (w.alloc (.cells #[.int .u8 k, .int .i64 n, .string s, .slice a us.length cap] 24)) := (Below.refl _ w).alloc (Nat.le_refl _) _
   have hi := (h0.below hB1).mono hB1.size
   have HB := Hi hB1
   clear hB1 ha h0
   by_cases h4 : k = 4
   · subst h4
     have HC := Hi (function_any n s us ih _ _ _ _ _ hi hw)
     clear hi ih hw
     go_enter Tryz.func33, Tryz.ntmps33
     go_wp2_with (go_at_call 59; refine (HC.out.mono fun e w2 h => h.from HB.out).mono ?_; clear HC; rintro e w2 (⟨ts, v, r1, rfl, r3, r4⟩ | ⟨r1, rfl, r4⟩))
     · go_ret
       exact .inl ⟨ts, v, r1, rfl, r3, r4⟩
     · exact ⟨rfl, .inr ⟨r1, rfl, r4⟩⟩
   · have k4 : (k == 4) = false := by simpa using h4
     by_cases h5 : k = 5
     · subst h5
       have HC := Hi (operation_any n s us ih _ _ _ _ _ hi hw)
       clear hi ih hw
       go_enter Tryz.func33, Tryz.ntmps33
       go_wp2_with (go_at_call 60; refine (HC.out.mono fun e w2 h => h.from HB.out).mono ?_; clear HC; rintro e w2 (⟨ts, v, r1, rfl, r3, r4⟩ | ⟨r1, rfl, r4⟩))
       · go_ret
         exact .inl ⟨ts, v, r1, rfl, r3, r4⟩
       · exact ⟨rfl, .inr ⟨r1, rfl, r4⟩⟩
     · have k5 : (k == 5) = false := by simpa using h5
       by_cases h6 : k = 6
       · subst h6
         have HC := Hi (span_any n s us ih _ _ _ _ _ hi hw)
         clear hi ih hw
         go_enter Tryz.func33, Tryz.ntmps33
         go_wp2_with (go_at_call 61; refine (HC.out.mono fun e w2 h => h.from HB.out).mono ?_; clear HC; rintro e w2 (⟨ts, v, r1, rfl, r3, r4⟩ | ⟨r1, rfl, r4⟩))
         · go_ret
           exact .inl ⟨ts, v, r1, rfl, r3, r4⟩
         · exact ⟨rfl, .inr ⟨r1, rfl, r4⟩⟩
       · have k6 : (k == 6) = false := by simpa using h6
         have HE := Hi (Tm.exp_leaf (n := n) (s := s) (args := us) h4 h5 h6)
         clear hi ih hw h4 h5 h6
         go_enter Tryz.func33, Tryz.ntmps33
         go_wp2
         go_ret
         refine .inl ⟨_, _, HE.out, rfl, ?_, HB.out.alloc HB.out.size _⟩
         have hnw := World.alloc_heap_new (w.alloc (.cells #[.int .u8 k, .int .i64 n, .string s, .slice a us.length cap] 24)) (.cells #[.int .u8 k, .int .i64 n, .string s, .slice none 0 0] 24)
         rw [World.size_alloc] at hnw
         refine Vals.one (g := w.heap.size + 1) (by omega) hnw ?_
         simp only [IsTmIn]
         exact ⟨trivial, hk, trivial, hn, trivial, hss, none, 0, rfl, by simp, fun h => absurd rfl h⟩
end Go.Proofs.YtlmdhlckgbgfhaaGreatDoor
namespace Go.Proofs.YtlmdhlckgbgfhaaGreatDoor
open Go.RowKit Go.Shelf
attribute [local go_sem] Oper.semAt_some

mutual
def Tm.WfL8 : Tm → Prop
 | .mk _ _ _ args => args.length ≤ 8 ∧ Tm.WfL8L args
def Tm.WfL8L : List Tm → Prop
 | [] => True
 | t :: ts => t.WfL8 ∧ Tm.WfL8L ts
end
theorem Tm.WfL8_mem : ∀ {ts : List Tm} {t : Tm}, Tm.WfL8L ts → t ∈ ts → t.WfL8
 | a :: ts, t, h, hm => by
   rcases List.mem_cons.1 hm with rfl | hm
   · exact h.1
   · exact Tm.WfL8_mem h.2 hm
def DetPost (t : Tm) (w : World) (e : Ending) (w' : World) : Prop := ∃ d0 d1 d2 d3, e = .returned (.agg #[d0, d1, d2, d3]) ∧ IsTmIn (fun b => w.heap.size ≤ b ∧ b < w'.heap.size) w' d0 d1 d2 d3 t ∧ Below w.heap.size w w'
def DetAt (t : Tm) : Prop := ∀ (c0 c1 c2 c3 : Value) (w : World), IsTm w.heap.size w c0 c1 c2 c3 t → t.WfL8 → Calls Tryz.prog 34 #[.agg #[c0, c1, c2, c3]] w (DetPost t w)

theorem detach_any (t : Tm) : DetAt t := by
 induction t using Tm.ind with
 | h k n s us ih =>
   intro c0 c1 c2 c3 w h hw
   simp only [IsTm] at h
   obtain ⟨rfl, hk, rfl, hn, rfl, hss, a, cap, rfl, hl, ha⟩ := h
   simp only [Tm.WfL8] at hw
   have HA := Hi ha
   have HIH := Hi ih
   have HW := Hi hw.2
   have hw1 := hw.1
   obtain ⟨W0, hW0⟩ : ∃ W0, (w.alloc (.cells #[.int .u8 k, .int .i64 n, .string s, .slice a us.length cap] 24)).alloc (.cells #[.int .u8 0, .int .i64 0, .string ⟨#[]⟩, .slice none 0 0] 24) = W0 := ⟨_, rfl⟩
   have hb0 : Below w.heap.size w W0 := by rw [← hW0]; exact ((Below.refl _ w).alloc (Nat.le_refl _) _).alloc (by simp) _
   have hsz : W0.heap.size = w.heap.size + 2 := by rw [← hW0]; simp
   have hN : W0.heap[w.heap.size]? = some (.cells #[.int .u8 k, .int .i64 n, .string s, .slice a us.length cap] 24 (0, 0)) := by
     rw [← hW0]; exact (Below.heap_alloc _ _ _ (by simp)).trans (World.alloc_heap_new _ _)
   have hR : W0.heap[w.heap.size + 1]? = some (.cells #[.int .u8 0, .int .i64 0, .string ⟨#[]⟩, .slice none 0 0] 24 (0, 0)) := by
     rw [← hW0]; have := World.alloc_heap_new (w.alloc (.cells #[.int .u8 k, .int .i64 n, .string s, .slice a us.length cap] 24)) (.cells #[.int .u8 0, .int .i64 0, .string ⟨#[]⟩, .slice none 0 0] 24); rwa [World.size_alloc] at this
   clear ha ih hw
   have x3 := cells_at hN 3 _ rfl
   obtain ⟨i0, hi, hz0, hz1, hz2⟩ := info_parts info_term
   go_enter Tryz.func34, Tryz.ntmps34
   go_wp2_with fail
   go_loopw [3, 9] (fun v i wr => ∃ j : Nat, j ≤ us.length ∧ i = .int .i64 j ∧ Vals none W0.heap.size wr v (us.take j) ∧ Below W0.heap.size W0 wr) (fun _ i _ => us.length - (intOf i).toNat)
   case atStart => exact ⟨0, Nat.zero_le _, rfl, Vals.nil _ _ _, Below.refl _ _⟩
   case round =>
     obtain ⟨j, hj, rfl, hV, hBl⟩ := hrel
     have hBw := hb0.trans (hBl.mono hb0.size)
     by_cases hlt : j < us.length
     · obtain ⟨bk, off, rfl, hbk', hI⟩ := HA.out (by intro e; rw [e] at hlt; simp at hlt)
       obtain ⟨c0, c1, c2, c3, e0, e1, e2, e3, hc⟩ := hI.at j hlt
       have g0 := (hBw.cell (p := ⟨bk, off + j * 4, none⟩) (by show bk < _; omega)).trans e0
       have g1 := (hBw.cell (p := ⟨bk, off + j * 4 + 1, none⟩) (by show bk < _; omega)).trans e1
       have g2 := (hBw.cell (p := ⟨bk, off + j * 4 + 2, none⟩) (by show bk < _; omega)).trans e2
       have g3 := (hBw.cell (p := ⟨bk, off + j * 4 + 3, none⟩) (by show bk < _; omega)).trans e3
       have hih := HIH.out us[j] (List.getElem_mem hlt)
       have hwf := Tm.WfL8_mem HW.out (List.getElem_mem hlt)
       have htk := List.take_succ_eq_append_getElem hlt
       obtain ⟨u, hq⟩ : ∃ u, us[j] = u := ⟨_, rfl⟩
       rw [hq] at hc hih hwf htk
       obtain ⟨k', n', s', as'⟩ := u
       have hc0 := hc
       simp only [IsTm] at hc
       obtain ⟨rfl, _, rfl, hn', rfl, _, a', cap', rfl, _, _⟩ := hc
       have hA : Below wr.heap.size wr (wr.alloc (.cells #[.int .u8 k', .int .i64 n', .string s', .slice a' as'.length cap'] 24)) := (Below.refl _ wr).alloc (Nat.le_refl _) _
       have hBA := hBw.trans (hA.mono hBw.size)
       have HP := Hi (hih _ _ _ _ _ ((hc0.below hBA).mono hBA.size) hwf)
       obtain ⟨xs, hO, hH, _⟩ := hV
       have htl : (us.take j).length = j := by simp; omega
       obtain ⟨TS, hTS⟩ : ∃ TS, us.take j = TS := ⟨_, rfl⟩
       rw [hTS] at htl hO hH htk
       clear hTS
       have HO := Hi hO
       have HH := Hi hH
       have HT := Hi htk
       have HHA := Hi hA
       have HBL := Hi hBl
       clear e0 e1 e2 e3 hih hwf htk hc0 hI hA hBA hO hH hBl hBw
       have i1 : (0 : Int) ≤ (j : Int) := by omega
       have i2 : (j : Int) < (us.length : Int) := by omega
       go_wp2_with (first | (go_at_call 34; refine HP.out.mono ?_; clear HP; rintro e W2 ⟨y0, y1, y2, y3, rfl, hv2, h4⟩; have hv3 := hv2; simp only [IsTmIn] at hv3; obtain ⟨rfl, _, rfl, _, rfl, _, a2, cap2, rfl, _, _⟩ := hv3) | (at_builtin; refine wpList_append_own_at _ rfl _ _ 22 rfl W0.heap.size 24 i0 _ 4 56 Tryz.underlying22 hi hz0 hz1 hz2 rfl (by decide) u3 TS.length xs rfl ?c0 _ 1 1 [.int .u8 k', .int .i64 n', .string s', .slice a2 as'.length cap2] rfl rfl ?c1 ?c2 ?c3 ?c4 ?c5 ?_))
       case c2 => simp [Value.oneCell']
       case c3 => unfold maxLen; omega
       case c4 => omega
       case c5 => have := HBL.out.size; have := HHA.out.size; have := h4.size; simp; omega
       case c1 =>
         intro jj u' hu'
         have hn := World.alloc_heap_new W2 (.cells #[.int .u8 k', .int .i64 n', .string s', .slice a2 as'.length cap2] 24)
         rcases jj with _ | _ | _ | _ | jj
         · cases hu'; exact cells_at hn 0 _ rfl
         · cases hu'; exact cells_at hn 1 _ rfl
         · cases hu'; exact cells_at hn 2 _ rfl
         · cases hu'; exact cells_at hn 3 _ rfl
         · simp at hu'
       case c0 => exact own_grown (own_grown HO.out HHA.out) (h4.alloc h4.size _)
       intro v' w' hown' hgrow _ hat
       have hBel := HHA.out.trans ((h4.alloc h4.size (.cells #[.int .u8 k', .int .i64 n', .string s', .slice a2 as'.length cap2] 24)).mono HHA.out.size)
       have z1 := HHA.out.size
       have z2 := h4.size
       have zA := hBel.size
       have zL := HBL.out.size
       have hV' : Vals none W0.heap.size w' v' (TS ++ [.mk k' n' s' as']) := Vals.app (ts := TS) (us := [.mk k' n' s' as']) (HH.out.keep fun b hf => ⟨⟨hf.1, Nat.lt_of_lt_of_le hf.2.1 zA, hf.2.2⟩, hBel.block b hf.2.1⟩) (fun g e => by cases e)
         (HoldL.one (hv2.keep fun b hf => ⟨⟨by omega, by simp; omega, fun e => by have := (HO.out.lt b e).2; omega, by simp⟩, Below.heap_alloc _ _ _ hf.2⟩)) (by rw [htl, hsz]; exact hown') hgrow (by rw [World.size_alloc]; exact hat)
       have hBw : Below W0.heap.size W0 w' := (HBL.out.trans (hBel.mono zL)).grown hgrow (by omega) (fun k e => (HO.out.lt k e).1)
       have HF := Hi (show ∃ j' : Nat, j' ≤ us.length ∧ (Value.int .i64 ((j + 1 : Nat) : Int)) = .int .i64 j' ∧ Vals none W0.heap.size w' v' (us.take j') ∧ Below W0.heap.size W0 w' from ⟨j + 1, by omega, rfl, by rw [HT.out]; exact hV', hBw⟩)
       clear hown' hgrow hat hBel hV' hBw HH HO HT
       go_wp2
       go_roundw
       case rel => exact HF.out
       case measure => simp [intOf]; omega
     · have hje : j = us.length := by omega
       subst hje
       rw [List.take_of_length_le (Nat.le_refl _)] at hV
       have hN' := (hBl.block w.heap.size (by omega)).trans hN
       have hR' := (hBl.block (w.heap.size + 1) (by omega)).trans hR
       obtain ⟨va, vn, vc, hva⟩ := hV.slice
       subst hva
       have HV := Hi hV
       have HBW := Hi hBw
       have y0 := cells_at hN' 0 _ rfl
       have y1 := cells_at hN' 1 _ rfl
       have y2 := cells_at hN' 2 _ rfl
       have y3 := cells_at hN' 3 _ rfl
       have q0 := cells_at hR' 0 _ rfl
       have q1 := cells_at hR' 1 _ rfl
       have q2 := cells_at hR' 2 _ rfl
       have q3 := cells_at hR' 3 _ rfl
       have f3 := frozen_of_row wr w.heap.size 3 _ _ hN'
       have p0 := frozen_of_row wr (w.heap.size + 1) 0 _ _ hR'
       have p1 := frozen_of_row wr (w.heap.size + 1) 1 _ _ hR'
       have p2 := frozen_of_row wr (w.heap.size + 1) 2 _ _ hR'
       have p3 := frozen_of_row wr (w.heap.size + 1) 3 _ _ hR'
       clear hV hBw hBl hN' hR'
       have hrow := HV.out.rowIn (Nat.le_refl _)
       have hkp : ∀ b, (W0.heap.size ≤ b ∧ b < wr.heap.size) → (((((wr.setCell ⟨w.heap.size, 3, none⟩ (.slice va vn vc)).setCell ⟨w.heap.size + 1, 0, none⟩ (.int .u8 k)).setCell ⟨w.heap.size + 1, 1, none⟩ (.int .i64 n)).setCell ⟨w.heap.size + 1, 2, none⟩ (.string s)).setCell ⟨w.heap.size + 1, 3, none⟩ (.slice va vn vc)).heap[b]? = wr.heap[b]? := fun b hb =>
         (Below.heap_setCell _ _ _ b (by simp; omega)).trans ((Below.heap_setCell _ _ _ b (by simp; omega)).trans ((Below.heap_setCell _ _ _ b (by simp; omega)).trans ((Below.heap_setCell _ _ _ b (by simp; omega)).trans (Below.heap_setCell _ _ _ b (by simp; omega)))))
       have hrow' := hrow.keep (ok' := fun b => w.heap.size ≤ b ∧ b < (((((wr.setCell ⟨w.heap.size, 3, none⟩ (.slice va vn vc)).setCell ⟨w.heap.size + 1, 0, none⟩ (.int .u8 k)).setCell ⟨w.heap.size + 1, 1, none⟩ (.int .i64 n)).setCell ⟨w.heap.size + 1, 2, none⟩ (.string s)).setCell ⟨w.heap.size + 1, 3, none⟩ (.slice va vn vc)).heap.size) (fun b hb => ⟨⟨by omega, by simp [World.setCell]; omega⟩, hkp b hb⟩)
       have HRW := Hi hrow'
       have HBF := Hi (((((HBW.out.setCell (p := ⟨w.heap.size, 3, none⟩) (Nat.le_refl _) (.slice va vn vc)).setCell (p := ⟨w.heap.size + 1, 0, none⟩) (by simp) (.int .u8 k)).setCell (p := ⟨w.heap.size + 1, 1, none⟩) (by simp) (.int .i64 n)).setCell (p := ⟨w.heap.size + 1, 2, none⟩) (by simp) (.string s)).setCell (p := ⟨w.heap.size + 1, 3, none⟩) (by simp) (.slice va vn vc))
       clear hrow hrow' hkp
       go_wp2
       refine bodyPost_ret (v := .agg #[.int .u8 k, .int .i64 n, .string s, .slice va vn vc]) (by simp [results, Tryz.f34, go_sem, q0, q1, q2, q3]) rfl ?_
       refine ⟨_, _, _, _, rfl, ?_, HBF.out⟩
       simp only [IsTmIn]
       obtain ⟨a', cap', e1, e2, e3⟩ := HRW.out
       exact ⟨trivial, hk, trivial, hn, trivial, hss, a', cap', e1, e2, e3⟩
end Go.Proofs.YtlmdhlckgbgfhaaGreatDoor
