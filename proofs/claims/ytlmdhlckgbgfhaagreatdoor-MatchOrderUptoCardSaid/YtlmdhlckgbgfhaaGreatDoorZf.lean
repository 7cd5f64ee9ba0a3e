/- Texts that belong together: Package arith: expandFunction. Package arith: apply at each operation. Package arith: the table of operations, a map keyed by structs that is built in an open order. Package arith: Calc. Package arith: a map of numbers that a call makes; the table's look-up. -/
import Derived.Test.YtlmdhlckgbgfhaaGreatDoorZe
import Derived.Test.YtlmdhlckgbgfhaaGreatDoorZd
import Derived.Test.YtlmdhlckgbgfhaaGreatDoorZc
import Derived.Maps.OwnIn
import Derived.DeepKeys5
import Derived.Maps.OwnOps
import Derived.Lib.SlKeysI
set_option maxRecDepth 100000
set_option maxHeartbeats 400000000
namespace Go.Proofs.YtlmdhlckgbgfhaaGreatDoor
open Go.RowKit Go.Shelf
attribute [local go_sem] Oper.semAt_some

theorem info_terms : (Tryz.prog.info? 22).map (fun i => (i.zero, i.size, i.bytes)) = some (some (.slice none 0 0), 1, 24) := by kernel_rfl

def FnI (N : Nat) (w : World) (cs : Array Value) (args : List Tm) (v i : Value) (wr : World) : Prop :=
 ∃ (j : Nat) (ls : List (List Tm)), j ≤ args.length ∧ i = .int .i64 j ∧ Tm.expL (args.take j) = some ls ∧ ls.length = j ∧ ListsT N wr v ls ∧ Below N w wr ∧ wr.heap[N]? = some (.cells cs 24 (0, 0)) ∧ N + 1 ≤ wr.heap.size

theorem own_not {W : World} {base g : Nat} {e t : TypeId} {size k : Nat} {v : Value} {xs : List Value} {cs : Array Value} (h : W.ownsRow base e size v k xs) (hg : W.heap[g]? = some (.cells cs t (0, 0))) (hne : t ≠ e) : v.ownBlock ≠ some g := by
 intro e'
 rcases h.2 with ⟨rfl, _⟩ | ⟨g', cap, cur, rfl, _, hg', _⟩
 · cases e'
 · obtain rfl : g' = g := by simpa [Value.ownBlock] using e'
   rw [hg] at hg'
   cases hg'
   exact hne rfl
theorem Vals.slice {ex : Option Nat} {base : Nat} {w : World} {v : Value} {ts : List Tm} (h : Vals ex base w v ts) : ∃ a n c, v = .slice a n c := by
 obtain ⟨xs, ⟨_, ⟨rfl, _⟩ | ⟨g, cap, cur, rfl, _⟩⟩, _⟩ := h
 · exact ⟨_, _, _, rfl⟩
 · exact ⟨_, _, _, rfl⟩
theorem tes_of {ok : Nat → Prop} {w : World} {b : Nat} : ∀ {ts : List Tm} {off : Nat}, IsTmsIn ok w b off ts → ∃ l : List (TEIn ok w), l.map (fun x => x.1.t) = ts ∧
   ∀ j (hj : j < l.length), w.cell? ⟨b, off + j * 4, none⟩ = some l[j].1.c0 ∧ w.cell? ⟨b, off + j * 4 + 1, none⟩ = some l[j].1.c1 ∧ w.cell? ⟨b, off + j * 4 + 2, none⟩ = some l[j].1.c2 ∧ w.cell? ⟨b, off + j * 4 + 3, none⟩ = some l[j].1.c3
 | [], _, _ => ⟨[], rfl, fun j hj => by simp at hj⟩
 | t :: ts, off, h => by
   simp only [IsTmsIn] at h
   obtain ⟨c0, c1, c2, c3, h0, h1, h2, h3, ht, hr⟩ := h
   obtain ⟨l, hl, hc⟩ := tes_of hr
   refine ⟨⟨⟨c0, c1, c2, c3, t⟩, ht⟩ :: l, by simp [hl], fun j hj => ?_⟩
   cases j with
   | zero => simpa using ⟨h0, h1, h2, h3⟩
   | succ j =>
     have := hc j (by simpa using hj)
     rw [show off + (j + 1) * 4 = off + 4 + j * 4 from by omega]
     simpa using this
theorem lists_of {ok : Nat → Prop} {w : World} : ∀ (ls : List (List Tm)) (vs : List Value), (∀ i (h : i < ls.length), ∃ u, vs[i]? = some u ∧ RowIn ok w u ls[i]) → ∃ Ls : List (List (TEIn ok w)), Ls.map (List.map fun x => x.1.t) = ls ∧
   ∀ i (h : i < Ls.length), ∃ (a : Option Addr) (cap : Nat), vs[i]? = some (.slice a Ls[i].length cap) ∧ Ls[i].length ≤ maxLen ∧
     (Ls[i] ≠ [] → ∃ b off, a = some ⟨b, off, none⟩ ∧ ok b ∧ ∀ j (hj : j < Ls[i].length), w.cell? ⟨b, off + j * 4, none⟩ = some Ls[i][j].1.c0 ∧ w.cell? ⟨b, off + j * 4 + 1, none⟩ = some Ls[i][j].1.c1 ∧ w.cell? ⟨b, off + j * 4 + 2, none⟩ = some Ls[i][j].1.c2 ∧ w.cell? ⟨b, off + j * 4 + 3, none⟩ = some Ls[i][j].1.c3)
 | [], _, _ => ⟨[], rfl, fun i h => by simp at h⟩
 | ts :: ls, vs, h => by
   obtain ⟨u, hu, a, cap, rfl, hl, hr⟩ := h 0 (by simp)
   obtain ⟨Ls, hm, hc⟩ := lists_of ls vs.tail (fun i hi => by
     obtain ⟨u, hu, hR⟩ := h (i + 1) (by simpa using hi)
     exact ⟨u, by simpa using hu, by simpa using hR⟩)
   simp only [List.getElem_cons_zero] at hu hl hr
   have hex : ∃ L : List (TEIn ok w), L.map (fun x => x.1.t) = ts ∧ (L ≠ [] → ∃ b off, a = some ⟨b, off, none⟩ ∧ ok b ∧ ∀ j (hj : j < L.length), w.cell? ⟨b, off + j * 4, none⟩ = some L[j].1.c0 ∧ w.cell? ⟨b, off + j * 4 + 1, none⟩ = some L[j].1.c1 ∧ w.cell? ⟨b, off + j * 4 + 2, none⟩ = some L[j].1.c2 ∧ w.cell? ⟨b, off + j * 4 + 3, none⟩ = some L[j].1.c3) := by
     by_cases hne : ts = []
     · subst hne; exact ⟨[], rfl, fun h => absurd rfl h⟩
     · obtain ⟨b, off, ha, hb, hi⟩ := hr hne
       obtain ⟨L, hL, hc⟩ := tes_of hi
       exact ⟨L, hL, fun _ => ⟨b, off, ha, hb, hc⟩⟩
   obtain ⟨L, hL, hLc⟩ := hex
   have hLl : L.length = ts.length := by rw [← hL]; simp
   refine ⟨L :: Ls, by simp [hL, hm], fun i hi => ?_⟩
   cases i with
   | zero => exact ⟨a, cap, by simpa [hLl] using hu, by simpa [hLl] using hl, hLc⟩
   | succ i =>
     obtain ⟨a', cap', h1, h2, h3⟩ := hc i (by simpa using hi)
     exact ⟨a', cap', by simpa using h1, h2, h3⟩

def IsC (w : World) (b : Nat) : Prop := ∃ cs t p, w.heap[b]? = some (.cells cs t p) ∧ 2 ≤ cs.size
theorem isC_of {w : World} {b o : Nat} {u : Value} (h : w.cell? ⟨b, o + 1, none⟩ = some u) : IsC w b := by
 unfold World.cell? at h
 cases hb : w.heap[b]? with
 | none => simp [hb] at h
 | some x =>
   cases x with
   | cells cs t p =>
     refine ⟨cs, t, p, hb, ?_⟩
     simp only [hb] at h
     by_cases hs : 2 ≤ cs.size
     · exact hs
     · rw [Array.getElem?_eq_none (by omega)] at h; cases h
   | _ => simp [hb] at h
mutual
theorem IsTmIn.isC {ok : Nat → Prop} {w : World} {c0 c1 c2 c3 : Value} : ∀ {t : Tm}, IsTmIn ok w c0 c1 c2 c3 t → IsTmIn (fun b => ok b ∧ IsC w b) w c0 c1 c2 c3 t
 | .mk _ _ _ args, ht => by
   simp only [IsTmIn] at ht ⊢
   obtain ⟨h0, hk, h1, hn, h2, hs, a, cap, h3, hl, hr⟩ := ht
   refine ⟨h0, hk, h1, hn, h2, hs, a, cap, h3, hl, fun hne => ?_⟩
   obtain ⟨b, off, ha, hb, hi⟩ := hr hne
   refine ⟨b, off, ha, ⟨hb, ?_⟩, IsTmsIn.isC hi⟩
   cases args with
   | nil => exact absurd rfl hne
   | cons u us =>
     simp only [IsTmsIn] at hi
     obtain ⟨_, c1, _, _, _, h1, _⟩ := hi
     exact isC_of h1
theorem IsTmsIn.isC {ok : Nat → Prop} {w : World} {b off : Nat} : ∀ {ts : List Tm}, IsTmsIn ok w b off ts → IsTmsIn (fun b => ok b ∧ IsC w b) w b off ts
 | [], _ => by simp only [IsTmsIn]
 | t :: ts, ht => by
   simp only [IsTmsIn] at ht ⊢
   obtain ⟨c0, c1, c2, c3, h0, h1, h2, h3, hi, hr⟩ := ht
   exact ⟨c0, c1, c2, c3, h0, h1, h2, h3, IsTmIn.isC hi, IsTmsIn.isC hr⟩
end
theorem HoldL.isC {ok : Nat → Prop} {w : World} : ∀ {ts : List Tm} {xs : List Value}, HoldL ok w xs ts → HoldL (fun b => ok b ∧ IsC w b) w xs ts
 | [], _, hx => hx
 | _ :: _, _, ⟨c0, c1, c2, c3, r, e, ht, hr⟩ => ⟨c0, c1, c2, c3, r, e, ht.isC, HoldL.isC hr⟩
theorem Vals.own {ex : Option Nat} {base : Nat} {A B : World} {row : Option Nat} {v : Value} {ts : List Tm} (h : Vals ex base A v ts) (hg : A.grownBy B row) (hr : ∀ r, row = some r → ∃ o : Obj, A.heap[r]? = some o ∧ o.isCells = false) : Vals ex base B v ts := by
 obtain ⟨xs, ho, hh, hx⟩ := h
 refine ⟨xs, ho.kept hg ?_, hh.isC.keep fun b hf => ⟨⟨hf.1.1, Nat.lt_of_lt_of_le hf.1.2.1 hg.size, hf.1.2.2⟩, hg.block b hf.1.2.1 fun e => ?_⟩, hx⟩
 · rcases ho.2 with ⟨rfl, _⟩ | ⟨g, cap, cur, rfl, _, hg', _⟩
   · exact .inl rfl
   · refine .inr fun e => ?_
     obtain ⟨o, h1, h2⟩ := hr g (by rw [← e]; rfl)
     rw [hg'] at h1; cases h1; cases h2
 · obtain ⟨o, h1, h2⟩ := hr b e.symm
   obtain ⟨cs, t, p, h3, _⟩ := hf.2
   rw [h3] at h1; cases h1; cases h2

def funT {ok : Nat → Prop} {w0 : World} (s : ByteArray) (x : List (TEIn ok w0)) : Tm := .mk 4 0 s (x.map fun y => y.1.t)
def FnL {ok : Nat → Prop} {W0 : World} (N n1 : Nat) (s : ByteArray) (w : World) (o : Option Nat) (pre : List (List (TEIn ok W0))) (W : World) : Prop :=
 (∃ v, Boxed W n1 22 v ∧ Vals o N W v (pre.map (funT s)) ∧ ∀ k, v.ownBlock = some k → n1 < k) ∧ Below N w W ∧ KeepOk ok W0 W ∧ W0.heap.size ≤ W.heap.size ∧ pre.length ≤ 1000
theorem FnL.own {N n1 : Nat} {s : ByteArray} {w W0 : World} {ok : Nat → Prop} (hN : N ≤ w.heap.size) (hN0 : N ≤ W0.heap.size) (hok : ∀ b, ok b → b < W0.heap.size) (o : Option Nat) : OwnFrom W0.heap.size (FnL (ok := ok) (W0 := W0) N n1 s w o) := by
 rintro pre A B row ⟨⟨v, h1, h2, h3⟩, h4, h5, h6, h7⟩ hg hr
 have hr' : ∀ r, row = some r → ∃ o : Obj, A.heap[r]? = some o ∧ o.isCells = false := fun r e => (hr r e).2
 refine ⟨⟨v, boxed_own n1 22 (fun _ : Unit => v) () A B row h1 hg hr', h2.own hg hr', h3⟩, ownFrom_below hN hN0 pre A B row h4 hg hr, fun b hb => (hg.block b (Nat.lt_of_lt_of_le (hok b hb) h6) fun e => ?_).trans (h5 b hb), Nat.le_trans h6 hg.size, h7⟩
 have := (hr b e.symm).1
 have := hok b hb
 omega
theorem FnL.bears {N n1 : Nat} {s : ByteArray} {w W0 : World} {ok : Nat → Prop} (hN0 : N ≤ W0.heap.size) (h10 : n1 < W0.heap.size) (hok : ∀ b, ok b → b < W0.heap.size) (g : Nat) (hg0 : W0.heap.size ≤ g) : BearsO (AbE g) (FnL (ok := ok) (W0 := W0) N n1 s w (some g)) := by
 rintro pre A B ⟨⟨v, h1, h2, h3⟩, h4, h5, h6, h7⟩ hg
 exact ⟨⟨v, h1.kept hg (by simp; omega), h2.other hg, h3⟩, h4.grown hg (by omega) (fun k e => by cases e; omega), h5.grown hg (fun h => by have := hok _ h; omega) (fun b hb => Nat.lt_of_lt_of_le (hok b hb) h6), Nat.le_trans h6 hg.size, h7⟩

theorem ownsRow_lower' {W : World} {b b' : Nat} {e : TypeId} {size n : Nat} {v : Value} {xs : List Value} (h : W.ownsRow b e size v n xs) (hb : b' ≤ b) : W.ownsRow b' e size v n xs := by
 refine ⟨h.1, ?_⟩
 rcases h.2 with h2 | ⟨g, cap, cur, h1, h2, h3⟩
 · exact .inl h2
 · exact .inr ⟨g, cap, cur, h1, Nat.le_trans hb h2, h3⟩
structure Two (p q : Nat) (A B : World) : Prop where
 os : B.os = A.os
 tape : B.tape = A.tape
 output : B.output = A.output
 size : A.heap.size ≤ B.heap.size
 block : ∀ b, b < A.heap.size → b ≠ p → b ≠ q → B.heap[b]? = A.heap[b]?
 others : KeepsOthers A B
theorem Two.refl (p q : Nat) (A : World) : Two p q A A := ⟨rfl, rfl, rfl, Nat.le_refl _, fun _ _ _ _ => rfl, KeepsOthers.refl _⟩
theorem Two.cell {p q : Nat} {A B : World} (h : Two p q A B) (b o : Nat) (v : Value) (hb : b = p ∨ b = q) : Two p q A (B.setCell ⟨b, o, none⟩ v) :=
 ⟨h.os, h.tape, h.output, Nat.le_trans h.size (by simp [World.setCell]), fun k hk hp hq => (Below.heap_setCell _ _ _ k (fun e => by rcases hb with rfl | rfl <;> simp_all)).trans (h.block k hk hp hq), h.others.trans (KeepsOthers.setCell _ _ _)⟩

theorem boxed_off {W : World} {B B' o : Nat} {t : TypeId} {v : Value} (h : Boxed W B t v) (hne : B ≠ B') (u : Value) : Boxed (W.setCell ⟨B', o, none⟩ u) B t v :=
 (Below.heap_setCell _ _ _ B hne).trans h
theorem set4 {α : Type} (xs : List α) (k : Nat) (hk : xs.length = k) (a b c d a' b' c' d' : α) : ((((xs ++ [a, b, c, d]).set k a').set (k + 1) b').set (k + 2) c').set (k + 3) d' = xs ++ [a', b', c', d'] := by
 subst hk
 simp
theorem own_set4 {w : World} {base g n cap k : Nat} {e : TypeId} {xs : List Value} {a b c d : Value} (a' b' c' d' : Value) (h : w.ownsRow base e 4 (.slice (some ⟨g, 0, none⟩) n cap) n (xs ++ [a, b, c, d])) (hk : xs.length = k) :
   ((((w.setCell ⟨g, k, none⟩ a').setCell ⟨g, k + 1, none⟩ b').setCell ⟨g, k + 2, none⟩ c').setCell ⟨g, k + 3, none⟩ d').ownsRow base e 4 (.slice (some ⟨g, 0, none⟩) n cap) n (xs ++ [a', b', c', d']) := by
 rw [← set4 xs k hk a b c d a' b' c' d']
 exact ((((h.stored k a').1.stored (k + 1) b').1.stored (k + 2) c').1.stored (k + 3) d').1

theorem FnL.step {N n1 g gg K : Nat} {s : ByteArray} {w W0 W wx w1 W3 : World} {ok : Nat → Prop} {pre : List (List (TEIn ok W0))} {x : List (TEIn ok W0)} {V V' u : Value} {xs : List Value} (hok : ∀ b, ok b → N ≤ b ∧ b < n1) (hN1 : N ≤ n1) (h10 : n1 < W0.heap.size) (hs : s.size ≤ maxLen) (hx : x.length = K) (hK : 1 ≤ K ∧ K ≤ 8)
   (h1 : Boxed W n1 22 V) (hO : W.ownsRow N 24 4 V pre.length xs) (hH : HoldL (Far (some g) N W V) W xs (pre.map (funT s))) (hE : V.ownBlock ≠ some g) (h3 : ∀ k, V.ownBlock = some k → n1 < k) (h4 : Below N w W) (h5 : KeepOk ok W0 W) (h6 : W0.heap.size ≤ W.heap.size) (hle : pre.length + 1 ≤ 1000)
   (hg : W0.heap.size ≤ g) (hgW : g < W.heap.size) (hb : Below W.heap.size W wx) (hu : wx.ownsRow W.heap.size 24 4 u K (flatE x)) (hgrow : wx.grownBy w1 V.ownBlock) (hgg : V'.ownBlock = some gg) (hat : some gg = V.ownBlock ∨ gg = wx.heap.size) (hT : Two gg n1 w1 W3)
   (hO3 : W3.ownsRow N 24 4 V' (pre.length + 1) (xs ++ [.int .u8 4, .int .i64 0, .string s, u])) (hB3 : Boxed W3 n1 22 V') :
   KeepsFrom W0.heap.size W W3 ∧ KpE ok g W W3 ∧ FnL (ok := ok) (W0 := W0) N n1 s w (some g) (pre ++ [x]) W3 := by
 have z1 := hb.size
 have z2 := hgrow.size
 have z3 := hT.size
 have ggn : n1 < gg := by
   rcases hat with e | e
   · exact h3 gg e.symm
   · omega
 have ggg : gg ≠ g := by
   rintro rfl
   rcases hat with e | e
   · exact hE e.symm
   · omega
 have hVl : ∀ k, V.ownBlock = some k → N ≤ k ∧ k < W.heap.size := fun k e => hO.lt k e
 have old : ∀ b, b < W.heap.size → V.ownBlock ≠ some b → b ≠ n1 → W3.heap[b]? = W.heap[b]? := fun b hb1 hb2 hb3 =>
   (hT.block b (by omega) (fun h => by
     rcases hat with e | e
     · exact hb2 (by rw [h]; exact e.symm)
     · omega) hb3).trans ((hgrow.block b (by omega) (fun e => hb2 e.symm)).trans (hb.block b hb1))
 have new : ∀ b, W.heap.size ≤ b → b < wx.heap.size → gg ≠ b ∧ W3.heap[b]? = wx.heap[b]? := fun b hb1 hb2 => by
   have hgb : gg ≠ b := by
     rcases hat with e | e
     · intro h; have := (hVl gg e.symm).2; omega
     · omega
   exact ⟨hgb, (hT.block b (by omega) (fun h => hgb h.symm) (by omega)).trans (hgrow.block b hb2 (fun e => by have := (hVl b e.symm).2; omega))⟩
 refine ⟨?_, ⟨?_, by omega, ?_⟩, ⟨V', hB3, ?_, fun k e => ?_⟩, ?_, ?_, by omega, by simpa using hle⟩
 · refine (KeepsOthers.trans ?_ (KeepsOthers.trans (KeepsOthers.of_grownBy hgrow ?_) hT.others)).from _
   · exact ⟨z1, fun k o hk _ => (hb.block k (gL hk)).trans hk⟩
   · intro j o ej hj
     rcases (own_grown hO hb).2 with ⟨rfl, _⟩ | ⟨g', cap, cur, rfl, _, hg', _⟩
     · cases ej
     · obtain rfl : g' = j := by simpa [Value.ownBlock] using ej
       rw [hg'] at hj; cases hj; rfl
 · exact fun b hb' => old b (by have := (hok b hb').2; omega) (fun e => by have := h3 b e; have := (hok b hb').2; omega) (by have := (hok b hb').2; omega)
 · exact old g hgW hE (by omega)
 · have hHn : HoldL (Far (some g) N W3 V') W3 xs (pre.map (funT s)) := hH.isC.keep fun b hf => by
     have hbn : b ≠ n1 := by
       rintro rfl
       obtain ⟨cs, t, p, e1, e2⟩ := hf.2
       rw [h1] at e1; cases e1; simp at e2
     refine ⟨⟨hf.1.1, by have := hf.1.2.1; omega, ?_, hf.1.2.2.2⟩, old b hf.1.2.1 hf.1.2.2.1 hbn⟩
     rw [hgg]
     rcases hat with e | e
     · rw [e]; exact hf.1.2.2.1
     · intro h; cases h; have := hf.1.2.1; omega
   have hnew : IsTmIn (Far (some g) N W3 V') W3 (.int .u8 4) (.int .i64 0) (.string s) u (funT s x) := by
     have hu' := hu
     rcases hu.2 with ⟨_, h0⟩ | ⟨h, cap, cur, rfl, hh, hcs, hc, hm, _, _⟩
     · omega
     have hhl := (gL hcs)
     have hnw := new h hh hhl
     unfold funT
     simp only [IsTmIn]
     refine ⟨trivial, by omega, trivial, by unfold I64; decide, trivial, hs, some ⟨h, 0, none⟩, cap, by simp [hx], by rw [List.length_map, hx]; unfold maxLen; omega, fun _ => ⟨h, 0, rfl, ⟨by omega, by omega, by rw [hgg]; intro e; cases e; exact hnw.1 rfl, by intro e; cases e; omega⟩, ?_⟩⟩
     have hfl : HoldL (Far (some g) N W3 V') W3 (flatE x) (x.map fun y => y.1.t) := (flatE_hold x).keep fun b hb' => by
       have hb2 := hok b hb'
       refine ⟨⟨hb2.1, by omega, by rw [hgg]; intro e; cases e; omega, by intro e; cases e; omega⟩, ?_⟩
       exact (old b (by omega) (fun e => by have := h3 b e; omega) (by omega)).trans (h5 b hb')
     refine HoldL.tms hfl (off := 0) fun j v hv => ?_
     have := hu'.cells (g := h) rfl j v hv
     have hadd : (⟨h, 0, none⟩ : Addr).add j = ⟨h, j, none⟩ := by unfold Addr.add; split <;> simp_all
     rw [hadd] at this
     rw [Nat.zero_add, ← this]
     exact cell_block hnw.2
   refine ⟨xs ++ [.int .u8 4, .int .i64 0, .string s, u], by simpa using hO3, ?_, fun g' e => ?_⟩
   · rw [List.map_append]
     exact hHn.append (HoldL.one hnew)
   · cases e
     rw [hgg]; intro e; cases e; exact ggg rfl
 · rw [hgg] at e; cases e; exact ggn
 · exact ⟨hT.os.trans (hgrow.os.trans (hb.os.trans h4.os)), hT.tape.trans (hgrow.tape.trans (hb.tape.trans h4.tape)), hT.output.trans (hgrow.output.trans (hb.output.trans h4.output)), by have := h4.size; omega,
     fun b hb' => (old b (by have := h4.size; omega) (fun e => by have := h3 b e; omega) (by omega)).trans (h4.block b hb')⟩
 · exact fun b hb' => (old b (by have := (hok b hb').2; omega) (fun e => by have := h3 b e; have := (hok b hb').2; omega) (by have := (hok b hb').2; omega)).trans (h5 b hb')

def FnF (H g k N k0 : Nat) (V : Value) (s : ByteArray) (xs : List Value) : Facts := fun i v w => match i with
 | 0 => v = V
 | 1 => v = .pointer (some ⟨N, 2, none⟩)
 | 2 => v = .string s
 | 3 => v = .slice (some ⟨g, 0, none⟩) k k
 | 4 => w.ownsRow H 24 4 v k xs
 | 5 => ∃ u, v = .agg #[.int .u8 4, .int .i64 0, .string s, u] ∧ w.ownsRow H 24 4 u k xs
 | 6 => v = .int .i64 k0
 | 7 => ∃ q, v = .slice (some ⟨q, 0, none⟩) 1 1 ∧ w.heap[q]? = some (.cells #[.int .u8 0, .int .i64 0, .string ⟨#[]⟩, .slice none 0 0] 24 (0, 0))
 | _ => True
theorem FnF_grow (H g k N k0 : Nat) (V : Value) (s : ByteArray) (xs : List Value) (i : Nat) (v : Value) (w w' : World) (h : FnF H g k N k0 V s xs i v w) (hb : Below w.heap.size w w') : FnF H g k N k0 V s xs i v w' := by
 match i with
 | 0 | 1 | 2 | 3 | 6 => exact h
 | 4 => exact own_grown h hb
 | 5 =>
   obtain ⟨u, h1, h2⟩ := h
   exact ⟨u, h1, own_grown h2 hb⟩
 | 7 =>
   obtain ⟨q, h1, h2⟩ := h
   exact ⟨q, h1, (hb.block q (gL h2)).trans h2⟩
 | i + 8 => trivial

theorem wpOn_seq' {P : Program} {b : Frame} {Q : Exit → Act → World → Prop} {a : Act} {w : World} {x y : Code} (K : Act → World → Prop) (hy : ∀ a w, K a w → wpOn P b y Q a w) (h : wpOn P b x (Exit.then K Q) a w) : wpOn P b (.seq x y) Q a w :=
 wpOn_seq fun k cs => by
   obtain ⟨e, a', w', hq, hs⟩ := h k cs
   refine ⟨e, a', w', ?_, hs⟩
   cases e <;> first | exact hy _ _ hq | exact hq

def FnK (N : Nat) (w : World) (cs : Array Value) (a : Option Addr) (cap : Nat) (args : List Tm) (a1 : Act) (wr : World) : Prop :=
 ∃ (ls : List (List Tm)) (v y5 y12 y13 y14 y15 y16 y17 y18 y19 y20 : Value), Tm.expL args = some ls ∧ ls.length = args.length ∧ ListsT N wr v ls ∧ Below N w wr ∧ wr.heap[N]? = some (.cells cs 24 (0, 0)) ∧ N + 1 ≤ wr.heap.size ∧
   a1 = { tmps := #[.agg cs, .pointer (some ⟨N, 0, none⟩), .slice none 0 0, v, undef, y5, undef, undef, .pointer (some ⟨N, 3, none⟩), .slice a args.length cap, .int .i64 args.length, .int .i64 args.length, y12, y13, y14, y15, y16, y17, y18, y19, y20,
     undef, undef, undef, undef, undef, undef, undef, undef, undef, undef, undef, undef, undef, undef, undef, undef, undef, undef], defers := [] }

theorem function_any (n : Int) (s : ByteArray) (args : List Tm) (IH : ∀ u ∈ args, ExpAt u) (c0 c1 c2 c3 : Value) (w : World) (h : IsTm w.heap.size w c0 c1 c2 c3 (.mk 4 n s args)) (hw : (Tm.mk 4 n s args).Wf) :
   Calls Tryz.prog 59 #[.agg #[c0, c1, c2, c3]] w (ExpPost (.mk 4 n s args) w) := by
 simp only [IsTm] at h
 obtain ⟨rfl, _, rfl, hn, rfl, hss, a, cap, rfl, hl, ha⟩ := h
 simp only [Tm.Wf] at hw
 obtain ⟨hw8, hw4, _, _, _, hwL⟩ := hw
 have HA := Hi ha
 have HIH := Hi IH
 have HWL := Hi hwL
 have HW4 := Hi (hw4 trivial)
 clear ha IH hwL hw4
 refine callsIn_wide.1 (calls_on (n := 0) Tryz.func59 rfl fun b hbf hbk hbr => ?_)
 simp only [Tryz.ntmps59, List.size_toArray, List.length_cons, List.length_nil, Nat.reduceAdd, Nat.reduceSub, Array.replicate_succ, Array.replicate_zero, List.push_toArray, List.append_toArray, List.nil_append, List.cons_append]
 refine wpOn_seq (wpOn_of (n := 0) hbr ?_)
 gi_wp2
 refine wpOn_seq (wpOn_of (n := 0) hbr ?_)
 gi_wp2
 refine wpOn_seq' (FnK w.heap.size w #[.int .u8 4, .int .i64 n, .string s, .slice a args.length cap] a cap args) ?rest (wpOn_of (n := 0) hbr ?_)
 case rest =>
   rintro a1 wr ⟨ls, v, y5, y12, y13, y14, y15, y16, y17, y18, y19, y20, hE, hll, hLs, hB, hb, hz, rfl⟩
   have hls1 : 1 ≤ ls.length := by rw [hll]; exact HW4.out
   have hLG := hLs.grow (((Below.refl _ wr).alloc (Nat.le_refl _) (.cells #[.slice none 0 0] 22)).alloc (by simp) (.cells #[v] 118))
   obtain ⟨W0, hW0⟩ : ∃ W0, (wr.alloc (.cells #[.slice none 0 0] 22)).alloc (.cells #[v] 118) = W0 := ⟨_, rfl⟩
   have hb1 : Boxed W0 wr.heap.size 22 (.slice none 0 0) := by rw [← hW0]; exact (Boxed.new _ _ _).alloc _
   have hb2 : W0.heap[wr.heap.size + 1]? = some (.cells #[v] 118 (0, 0)) := by
     rw [← hW0]; have := World.alloc_heap_new (wr.alloc (.cells #[.slice none 0 0] 22)) (.cells #[v] 118); rwa [World.size_alloc] at this
   have hsz : W0.heap.size = wr.heap.size + 2 := by rw [← hW0]; simp
   have hBl : Below wr.heap.size wr W0 := by rw [← hW0]; exact ((Below.refl _ wr).alloc (Nat.le_refl _) _).alloc (by simp) _
   rw [hW0] at hLG
   obtain ⟨vs, hown, hrows⟩ := hLs
   obtain ⟨bL, capL, rfl⟩ : ∃ bL capL, v = .slice (some ⟨bL, 0, none⟩) ls.length capL := by
     rcases hown.2 with ⟨_, h0⟩ | ⟨g, cap, cur, h1, _⟩
     · omega
     · exact ⟨g, cap, h1⟩
   have hbL := hown.lt bL rfl
   obtain ⟨ok, hok⟩ : ∃ ok : Nat → Prop, ok = fun b => w.heap.size ≤ b ∧ b < wr.heap.size := ⟨_, rfl⟩
   obtain ⟨Ls, hLm, hLc⟩ := lists_of (ok := ok) (w := W0) ls vs (fun i hi => by
     obtain ⟨u, hu, hR⟩ := hrows i hi
     exact ⟨u, hu, hR.keep fun b hf => ⟨by rw [hok]; exact ⟨hf.1, hf.2.1⟩, hBl.block b hf.2.1⟩⟩)
   have hLl : Ls.length = ls.length := by rw [← hLm]; simp
   have hRows : RowsE (ok := ok) (w0 := W0) W0 bL Ls := by
     refine ⟨by rw [hok]; exact ⟨hbL.1, hbL.2⟩, fun i hi => ?_⟩
     obtain ⟨a', cap', h1, h2, h3⟩ := hLc i hi
     have := (own_grown hown hBl).cells (g := bL) rfl i _ h1
     have hadd : (⟨bL, 0, none⟩ : Addr).add i = ⟨bL, i, none⟩ := by unfold Addr.add; split <;> simp_all
     rw [hadd] at this
     exact ⟨a', cap', this, h2, h3⟩
   refine wpOn_seq (wpOn_of (n := 0) hbr ?_)
   gi_wp2
   refine wpOn_seq (wpOn_seq (wpOn_of (n := 0) hbr ?_))
   gi_wp2_with (first | (refine ⟨trivial, rfl, ?_⟩; gi_at_call 81; refine (callsIn_wide.2 (combosT_any _ _ _ _)).mono ?_; rintro e w' ⟨rfl, rfl⟩))
   rw [hll] at hW0
   rw [hW0]
   have hLa : Ls.length = args.length := hLl.trans hll
   rw [hll] at hb2
   rw [← hLa] at hb2
   have hokl : ∀ b, ok b → b < W0.heap.size := fun b hb => by rw [hok] at hb; have := hb.2; omega
   have hN0 : w.heap.size ≤ W0.heap.size := by omega
   clear hW0 hLG hrows hLc hown
   refine wpOn_block (range_on (fn := Tryz.f59) (by rw [hbf]; exact Tryz.func59) hbr (gf := 117) (lb := #[.pointer (some ⟨wr.heap.size + 1, 0, none⟩)]) rfl (enters_of Tryz.func117 (by kernel_rfl) rfl)
     (n := 0) (combosT_seq Ls (by omega) bL capL (wr.heap.size + 1) 0 W0 hokl hRows hb2) ?hAb ?hKt ?hKb ?hC (fun _ _ => rfl)
     (FnL w.heap.size wr.heap.size s w) (fun ch W => ch = boom ∧ 1000 < (combos Ls).length ∧ Below w.heap.size w W) (FnL.own (Nat.le_refl _) hN0 hokl) (fun g hg => FnL.bears hN0 (by omega) hokl g hg) ?h0 ?hst
     (fun g a' _ => a' = { tmps := #[.agg #[.int .u8 4, .int .i64 n, .string s, .slice a args.length cap], .pointer (some ⟨w.heap.size, 0, none⟩), .slice none 0 0, .slice (some ⟨bL, 0, none⟩) args.length capL, undef, y5, .pointer (some ⟨wr.heap.size, 0, none⟩),
       .slice (some ⟨g, 0, none⟩) args.length args.length, .pointer (some ⟨w.heap.size, 3, none⟩), .slice a args.length cap, .int .i64 args.length, .int .i64 args.length, y12, y13, y14, y15, y16, y17, y18, y19, y20, .slice (some ⟨bL, 0, none⟩) args.length capL,
       .func (.func 117) #[] #[.pointer (some ⟨wr.heap.size + 1, 0, none⟩)], .slice (some ⟨g, 0, none⟩) args.length args.length, undef, undef, undef, undef, undef, undef, undef, undef, undef, undef, undef, undef, undef, undef, undef], defers := [] })
     (fun g a' => ownFrom_pure _ fun _ => _) ?hassign ?hbody ?hdone ?hpan)
   case hAb => exact fun g A B l o hlg hg hl _ => (hg.block l (gL hl) (fun e => by cases e; exact hlg rfl)).trans hl
   case hKt => exact fun g A B C h k => ⟨h.1.trans k.1, Nat.le_trans h.2.1 k.2.1, k.2.2.trans h.2.2⟩
   case hKb => exact fun g x W l o o' hl hlg _ _ => ⟨fun b hb => World.putObj_heap_other (by have := hokl b hb; omega), by simp, World.putObj_heap_other (by omega)⟩
   case hC =>
     intro g x W l o o' hc hl ho
     refine hc.block (World.putObj_heap_other fun e => ?_)
     subst e
     rcases hc.2 with ⟨h1, _⟩ | ⟨g', cap', cur, h1, _, h2, _⟩
     · cases h1
     · simp only [Value.slice.injEq, Option.some.injEq, Addr.mk.injEq, and_true, true_and] at h1
       obtain ⟨rfl, _⟩ := h1
       rw [hl] at h2; cases h2; cases ho
   case h0 => exact ⟨⟨_, hb1, Vals.nil _ _ _, fun k e => by cases e⟩, hB.trans (hBl.mono hB.size), KeepOk.refl _ _, Nat.le_refl _, Nat.zero_le _⟩
   case hst =>
     rintro g W W2 hW0 ⟨⟨v, h1, h2, h3⟩, h4, h5, h6, h7⟩ hg hg2 hb
     exact ⟨⟨v, (hb.block _ (by omega)).trans h1, (h2.shun hg).grow hb, h3⟩, h4.trans (hb.mono (by omega)), h5.trans fun b hb' => hb.block b (Nat.lt_of_lt_of_le (hokl b hb') h6), Nat.le_trans h6 hb.size, h7⟩
   case hassign =>
     intro m l g pre x W K hg hi hc hK
     have HK := Hi (hK _ W (KeepsOthers.refl _ |>.from _) ⟨KeepOk.refl _ _, Nat.le_refl _, rfl⟩ hi hc rfl)
     clear hK
     gi_wp2
     exact HK.out
   case hdone =>
     rintro D o W hD ⟨⟨v, h1, h2, h3⟩, h4, h5, h6, h7⟩ hK
     have vc := h1.cell
     have HE := Hi (show (Tm.mk 4 n s args).exp = some ((combos Ls).map (funT s)) by
       rw [Tm.exp_fun, hE, Option.bind_some, ← hLm, combos_map, List.length_map, if_pos h7, List.map_map]; rfl)
     have HV := Hi (h2.open'.own (grownBy_putObj' W D (.deferred none)) (fun r e => by cases e; exact ⟨_, hK, rfl⟩))
     have HB := Hi (h4.trans (belowK_b (w := w) (Nat.le_refl _) W D _ (.deferred none) (by omega) hK rfl rfl))
     have HK := Hi hK
     clear h2 h3 h4 h5 hK
     refine wpOn_of (n := 0) hbr ?_
     gi_wp2
     refine ⟨by simp, .inl ⟨_, _, rfl, run_takeDeferred HK.out, ?_⟩⟩
     refine ⟨_, results_tmp rfl _ _ _, ?_⟩
     exact .inl ⟨_, v, HE.out, rfl, HV.out, HB.out⟩
   case hpan =>
     rintro D ch W hD ⟨rfl, h1, h2⟩ hK
     refine ⟨by simp, .inl ⟨_, _, rfl, run_takeDeferred hK, ?_⟩⟩
     refine .inr ⟨?_, rfl, h2.trans (belowK_b (w := w) (Nat.le_refl _) W D _ (.deferred none) (by omega) hK rfl rfl)⟩
     rw [Tm.exp_fun, hE, Option.bind_some, ← hLm, combos_map, List.length_map, if_neg (by omega)]
   case hbody =>
     rintro m l g pre x a' W hl0 hg hpf ⟨⟨V, h1, h2, h3⟩, h4, h5, h6, h7⟩ hc rfl
     have hple : pre.length + 1 ≤ (combos Ls).length := by simpa using hpf.length_le
     have vc := h1.cell
     have vf := h1.frozen
     obtain ⟨xs, hO, hH, hE'⟩ := h2
     obtain ⟨va, vk, hVs⟩ : ∃ va vk, V = .slice va pre.length vk := by
       rcases hO.2 with ⟨rfl, h0⟩ | ⟨g, cap, cur, rfl, _⟩
       · exact ⟨none, 0, by rw [show pre.length = 0 from by simpa using h0]⟩
       · exact ⟨some ⟨g, 0, none⟩, cap, by rw [List.length_map]⟩
     subst hVs
     have bN : W.heap[w.heap.size]? = some (.cells #[.int .u8 4, .int .i64 n, .string s, .slice a args.length cap] 24 (0, 0)) :=
       (h5 _ (by rw [hok]; omega)).trans ((hBl.block _ (by omega)).trans hb)
     have HC := Hi hc
     have HO := Hi hO
     have HH := Hi hH
     have HE' := Hi hE'
     have H1 := Hi h1
     have H3 := Hi h3
     have H4 := Hi h4
     have H5 := Hi h5
     have HPF := Hi hpf
     clear hc hO hH hE' h1 h3 h4 h5 hpf
     by_cases hfar : 1000 < (pre.length : Int) + 1
     · gi_wp2_with (first | (refine ⟨trivial, wide_dep _, ?_⟩; gi_at_call 82; refine ((callsIn_wide.2 (limit_far _ hfar _)).inRound _).mono ?_; rintro e w' ⟨rfl, rfl⟩))
       exact ⟨rfl, (KeepsOthers.refl _).from _, rfl, by omega, H4.out⟩
     · gi_wp2_with (first | (refine ⟨trivial, wide_dep _, ?_⟩; gi_at_call 82; refine ((callsIn_wide.2 (limit_ok _ (by omega) _)).inRound _).mono ?_; rintro e w' ⟨rfl, rfl⟩))
       have mixed : Tryz.prog.follows .mixedOrders = true := by kernel_rfl
       have hzW : W0.heap.size ≤ W.heap.size := h6
       have hgW : g < W.heap.size := HC.out.lt
       refine wpIn_region_head mixed 8 (FnF W.heap.size g args.length w.heap.size pre.length (.slice va pre.length vk) s (flatE x)) (FnF_grow _ _ _ _ _ _ _ _) (by kernel_rfl) (by kernel_rfl) (steps_in ⟨?_, ?_, ?_, ?_, ?_, ?_, ?_, ?_, trivial⟩) ?_
       · intro a wx hb hd hs ho hp
         refine ⟨rfl, ?_⟩
         have q6 : a.tmps.getD 6 undef = _ := (ho 6 (by kernel_rfl)).trans rfl
         have x0 := (hb.cell (p := ⟨wr.heap.size, 0, none⟩) (by show wr.heap.size < _; omega)).trans vc
         unfold Oper.wpIn
         refine ⟨fun _ _ => trivial, ?_⟩
         go_simp
         exact Stepped.at rfl hd bR rfl
       · intro a wx hb hd hs ho hp
         refine ⟨rfl, ?_⟩
         have q1 : a.tmps.getD 1 undef = _ := (ho 1 (by kernel_rfl)).trans rfl
         unfold Oper.wpIn
         refine ⟨fun _ _ => trivial, ?_⟩
         go_simp
         exact Stepped.at rfl hd bR rfl
       · intro a wx hb hd hs ho hp
         refine ⟨rfl, ?_⟩
         have q29 : a.tmps.getD 29 undef = .pointer (some ⟨w.heap.size, 2, none⟩) := facts_at hp 1 29 (by kernel_rfl)
         have x0 := cells_at ((hb.block w.heap.size (by omega)).trans bN) 2 _ rfl
         unfold Oper.wpIn
         refine ⟨fun _ _ => trivial, ?_⟩
         go_simp
         exact Stepped.at rfl hd bR rfl
       · intro a wx hb hd hs ho hp
         refine ⟨rfl, ?_⟩
         have q7 : a.tmps.getD 7 undef = _ := (ho 7 (by kernel_rfl)).trans rfl
         unfold Oper.wpIn
         refine ⟨fun _ _ => trivial, ?_⟩
         go_simp
         exact Stepped.at rfl hd bR rfl
       · intro a wx hb hd hs ho hp
         refine ⟨rfl, ?_⟩
         have q31 : a.tmps.getD 31 undef = .slice (some ⟨g, 0, none⟩) args.length args.length := facts_at hp 3 31 (by kernel_rfl)
         have HK := Hi (clone_any g args.length (flatE x) (by omega) wx (by have := HC.out; rw [hLa] at this; exact own_grown this hb) (oneCells (flatE_hold x)))
         unfold Oper.wpIn
         refine ⟨fun _ _ => trivial, ?_⟩
         go_simp
         refine ⟨wide_dep _, ((callsIn_wide.2 HK.out).inRound _).mono ?_⟩
         rintro e w2 ⟨v', rfl, h1, h2⟩
         exact Stepped.at rfl hd h2 (ownsRow_lower' h1 hb.size)
       · intro a wx hb hd hs ho hp
         refine ⟨rfl, ?_⟩
         have q30 : a.tmps.getD 30 undef = .string s := facts_at hp 2 30 (by kernel_rfl)
         obtain ⟨u, hu⟩ : ∃ u, a.tmps.getD 32 undef = u := ⟨_, rfl⟩
         have q32 : FnF W.heap.size g args.length w.heap.size pre.length (.slice va pre.length vk) s (flatE x) 4 u wx := hu ▸ facts_at hp 4 32 (by kernel_rfl)
         obtain ⟨ua, un, uc, rfl⟩ : ∃ ua un uc, u = .slice ua un uc := by
           rcases q32.2 with ⟨e, _⟩ | ⟨_, _, _, e, _⟩
           · exact ⟨_, _, _, e⟩
           · exact ⟨_, _, _, e⟩
         have s30 := qslot_of (hs.trans (show _ = 39 from rfl)) (by decide) q30
         have s32 := qslot_of (hs.trans (show _ = 39 from rfl)) (by decide) hu
         have HQ := Hi q32; clear q32
         unfold Oper.wpIn
         refine ⟨fun _ _ => trivial, ?_⟩
         go_simp
         exact Stepped.at (v := .agg #[.int .u8 4, .int .i64 0, .string s, .slice ua un uc]) rfl hd bR ⟨_, rfl, HQ.out⟩
       · intro a wx hb hd hs ho hp
         refine ⟨rfl, ?_⟩
         have q28 : a.tmps.getD 28 undef = .slice va pre.length vk := facts_at hp 0 28 (by kernel_rfl)
         unfold Oper.wpIn
         refine ⟨fun _ _ => trivial, ?_⟩
         go_simp
         exact Stepped.at rfl hd bR rfl
       · intro a wx hb hd hs ho hp
         refine ⟨rfl, ?_⟩
         unfold Oper.wpIn
         refine ⟨fun _ _ => trivial, ?_⟩
         go_simp
         exact Stepped.at (v := .slice (some ⟨wx.heap.size, 0, none⟩) 1 1) rfl hd (bR.alloc (Nat.le_refl _) _) ⟨wx.heap.size, rfl, World.alloc_heap_new _ _⟩
       intro m' a wx hb hd hs ho hf
       have k28 : a.tmps.getD 28 undef = .slice va pre.length vk := facts_to hf 0 28 (by decide) (by kernel_rfl)
       obtain ⟨u, k33, hu⟩ : FnF W.heap.size g args.length w.heap.size pre.length (.slice va pre.length vk) s (flatE x) 5 (a.tmps.getD 33 undef) wx := facts_to hf 5 33 (by decide) (by kernel_rfl)
       obtain ⟨ua, un, uc, rfl⟩ : ∃ ua un uc, u = .slice ua un uc := by
         rcases hu.2 with ⟨e, _⟩ | ⟨_, _, _, e, _⟩
         · exact ⟨_, _, _, e⟩
         · exact ⟨_, _, _, e⟩
       have HU := Hi hu
       clear hu
       have k34 : a.tmps.getD 34 undef = .int .i64 pre.length := facts_to hf 6 34 (by decide) (by kernel_rfl)
       obtain ⟨q, k35, hq⟩ : FnF W.heap.size g args.length w.heap.size pre.length (.slice va pre.length vk) s (flatE x) 7 (a.tmps.getD 35 undef) wx := facts_to hf 7 35 (by decide) (by kernel_rfl)
       have k6 : a.tmps.getD 6 undef = .pointer (some ⟨wr.heap.size, 0, none⟩) := (ho 6 (by kernel_rfl)).trans rfl
       clear hf
       obtain ⟨T, D⟩ := a
       simp only at hd hs k28 k33 k34 k35 k6
       subst hd
       have hE := slots_all T 39 (hs.trans rfl)
       simp only [List.range, List.range.loop, List.map, k28, k33, k34, k35, k6] at hE
       rw [hE]
       clear hE k28 k33 k34 k35 k6 ho hs
       obtain ⟨i0, hi, hz0, hz1, hz2⟩ := info_parts info_term
       refine any_one (i := 8) (by kernel_rfl) rfl ?_
       refine wpListIn_append_own_at _ rfl _ _ 22 rfl w.heap.size 24 i0 _ 4 56 Tryz.underlying22 hi hz0 hz1 hz2 rfl (by decide) (.slice va pre.length vk) pre.length xs rfl ?c0 ⟨q, 0, none⟩ 1 1 [.int .u8 0, .int .i64 0, .string ⟨#[]⟩, .slice none 0 0] rfl rfl ?c1 ?c2 ?c3 ?c4 ?c5 ?_
       case c2 => simp [Value.oneCell']
       case c3 => unfold maxLen; omega
       case c4 => omega
       case c5 => have := hb.size; omega
       case c1 =>
         intro jj u' hu'
         rcases jj with _ | _ | _ | _ | jj
         · cases hu'; exact cells_at hq 0 _ rfl
         · cases hu'; exact cells_at hq 1 _ rfl
         · cases hu'; exact cells_at hq 2 _ rfl
         · cases hu'; exact cells_at hq 3 _ rfl
         · simp at hu'
       case c0 => have := own_grown HO.out hb; rwa [List.length_map] at this
       intro V' w1 hown' hgrow _ hat
       obtain ⟨gg, cap', rfl⟩ := ownsRow_succ hown'
       have hBx : Boxed wx wr.heap.size 22 (.slice va pre.length vk) := (hb.block _ (by omega)).trans H1.out
       have hOx := own_grown HO.out hb
       have hB1 : Boxed w1 wr.heap.size 22 (.slice va pre.length vk) := hBx.kept hgrow (own_not hOx hBx (by decide)).symm
       have ggn : wr.heap.size ≠ gg := by
         intro e
         subst e
         exact own_not hown' hB1 (by decide) rfl
       have hfr := fun j => hown'.frozenAt j
       have f0 := hfr (pre.length * 4)
       have f1 := hfr (pre.length * 4 + 1)
       have f2 := hfr (pre.length * 4 + 2)
       have f3 := hfr (pre.length * 4 + 3)
       have fv := hB1.frozen
       have cv := hB1.cell
       have hxl : xs.length = pre.length * 4 := by have := HO.out.1; rwa [List.length_map] at this
       have e0 : w1.cell? ⟨gg, pre.length * 4, none⟩ = some (.int .u8 0) := by rw [hown'.cellAt _ (by omega), ← hxl]; simp
       have e1 : w1.cell? ⟨gg, pre.length * 4 + 1, none⟩ = some (.int .i64 0) := by rw [hown'.cellAt _ (by omega), ← hxl, List.getElem?_append_right (by omega)]; simp
       have e2 : w1.cell? ⟨gg, pre.length * 4 + 2, none⟩ = some (.string ⟨#[]⟩) := by rw [hown'.cellAt _ (by omega), ← hxl, List.getElem?_append_right (by omega)]; simp
       have e3 : w1.cell? ⟨gg, pre.length * 4 + 3, none⟩ = some (.slice none 0 0) := by rw [hown'.cellAt _ (by omega), ← hxl, List.getElem?_append_right (by omega)]; simp
       have HOW := Hi hown'
       have HGR := Hi hgrow
       have HAT := Hi hat
       clear hown' hgrow hat hfr
       have i1 : (0 : Int) ≤ (pre.length : Int) := by omega
       have i2 : (pre.length : Int) < (pre.length : Int) + 1 := by omega
       have FIN : ∀ W3 : World, Two gg wr.heap.size w1 W3 → W3.ownsRow w.heap.size 24 4 (.slice (some ⟨gg, 0, none⟩) (pre.length + 1) cap') (pre.length + 1) (xs ++ [.int .u8 4, .int .i64 0, .string s, .slice ua un uc]) →
           Boxed W3 wr.heap.size 22 (.slice (some ⟨gg, 0, none⟩) (pre.length + 1) cap') → KeepsFrom W0.heap.size W W3 ∧ KpE ok g W W3 ∧ FnL (ok := ok) (W0 := W0) w.heap.size wr.heap.size s w (some g) (pre ++ [x]) W3 := fun W3 hT hO3 hB3 =>
         FnL.step (gg := gg) (K := args.length) (fun b hb => by rw [hok] at hb; exact hb) (by omega) (by omega) hss (by rw [combos_length Ls x (HPF.out.subset (by simp)), hLa]) ⟨HW4.out, hw8⟩ H1.out (by have := HO.out; rwa [List.length_map] at this) HH.out (HE'.out g rfl) H3.out H4.out H5.out hzW (by omega) hg hgW hb HU.out HGR.out rfl
           (by rcases HAT.out with e | e
               · exact .inl e
               · exact .inr (by simpa [Value.ownBlock] using e)) hT hO3 hB3
       have FA := Hi (FIN (((((w1.setCell ⟨gg, pre.length * 4, none⟩ (.int .u8 4)).setCell ⟨gg, pre.length * 4 + 1, none⟩ (.int .i64 0)).setCell ⟨gg, pre.length * 4 + 2, none⟩ (.string s)).setCell ⟨gg, pre.length * 4 + 3, none⟩ (.slice ua un uc)).setCell ⟨wr.heap.size, 0, none⟩ (.slice (some ⟨gg, 0, none⟩) (pre.length + 1) cap')) (((((Two.refl _ _ _).cell _ _ _ (.inl rfl)).cell _ _ _ (.inl rfl)).cell _ _ _ (.inl rfl)).cell _ _ _ (.inl rfl) |>.cell _ _ _ (.inr rfl))
         (ownsRow_setCell_other (own_set4 _ _ _ _ HOW.out hxl) (by simp [Value.ownBlock]; omega) _) ((boxed_off (boxed_off (boxed_off (boxed_off hB1 ggn _) ggn _) ggn _) ggn _).set _))
       have FB := Hi (FIN (((((w1.setCell ⟨wr.heap.size, 0, none⟩ (.slice (some ⟨gg, 0, none⟩) (pre.length + 1) cap')).setCell ⟨gg, pre.length * 4, none⟩ (.int .u8 4)).setCell ⟨gg, pre.length * 4 + 1, none⟩ (.int .i64 0)).setCell ⟨gg, pre.length * 4 + 2, none⟩ (.string s)).setCell ⟨gg, pre.length * 4 + 3, none⟩ (.slice ua un uc)) (((((Two.refl _ _ _).cell _ _ _ (.inr rfl)).cell _ _ _ (.inl rfl)).cell _ _ _ (.inl rfl)).cell _ _ _ (.inl rfl) |>.cell _ _ _ (.inl rfl))
         (own_set4 _ _ _ _ (ownsRow_setCell_other HOW.out (by simp [Value.ownBlock]; omega) _) hxl) (boxed_off (boxed_off (boxed_off (boxed_off (hB1.set _) ggn _) ggn _) ggn _) ggn _))
       clear FIN
       refine any_two (i := 9) (j := 11) (by kernel_rfl) rfl rfl ?_ ?_
       · gi_wp2
         refine any_two (i := 10) (j := 11) (by kernel_rfl) rfl rfl ?_ ?_
         · gi_wp2
           refine any_one (i := 11) (by kernel_rfl) rfl ?_
           gi_wp2
           refine wpAnyIn_done (by kernel_rfl) ?_ _
           exact FA.out
         · gi_wp2
           refine any_one (i := 10) (by kernel_rfl) rfl ?_
           gi_wp2
           refine wpAnyIn_done (by kernel_rfl) ?_ _
           exact FB.out
       · gi_wp2
         refine any_one (i := 9) (by kernel_rfl) rfl ?_
         gi_wp2
         refine any_one (i := 10) (by kernel_rfl) rfl ?_
         gi_wp2
         refine wpAnyIn_done (by kernel_rfl) ?_ _
         exact FB.out
 have b0 : (w.alloc (.cells #[.int .u8 4, .int .i64 n, .string s, .slice a args.length cap] 24)).heap[w.heap.size]? = some (.cells #[.int .u8 4, .int .i64 n, .string s, .slice a args.length cap] 24 (0, 0)) := World.alloc_heap_new _ _
 gi_wp2
 gi_loopw [3, 11] (fun v i wr => FnI w.heap.size w #[.int .u8 4, .int .i64 n, .string s, .slice a args.length cap] args v i wr) (fun _ i _ => args.length - (intOf i).toNat)
 case atStart => exact ⟨0, [], Nat.zero_le _, rfl, by simp [Tm.expL], rfl, ListsT.nil _ _, (Below.refl _ w).alloc (Nat.le_refl _) _, b0, by simp⟩
 case round =>
   clear b0
   obtain ⟨j, ls, hj, rfl, hE, hjl, hLs, hB, hb, hz⟩ := hrel
   by_cases hlt : j < args.length
   · obtain ⟨bk, off, rfl, hbk', hI⟩ := HA.out (by intro e; rw [e] at hlt; simp at hlt)
     obtain ⟨c0, c1, c2, c3, e0, e1, e2, e3, hc⟩ := hI.at j hlt
     have g0 := (hB.cell (p := ⟨bk, off + j * 4, none⟩) (by show bk < _; omega)).trans e0
     have g1 := (hB.cell (p := ⟨bk, off + j * 4 + 1, none⟩) (by show bk < _; omega)).trans e1
     have g2 := (hB.cell (p := ⟨bk, off + j * 4 + 2, none⟩) (by show bk < _; omega)).trans e2
     have g3 := (hB.cell (p := ⟨bk, off + j * 4 + 3, none⟩) (by show bk < _; omega)).trans e3
     have hih := HIH.out args[j] (List.getElem_mem hlt)
     have hwf := Tm.WfL_mem HWL.out (List.getElem_mem hlt)
     have htk := Tm.expL_take hlt
     rw [hE] at htk
     obtain ⟨u, hq⟩ : ∃ u, args[j] = u := ⟨_, rfl⟩
     rw [hq] at hc hih hwf htk
     obtain ⟨k', n', s', as'⟩ := u
     have hc0 := hc
     simp only [IsTm] at hc
     obtain ⟨rfl, _, rfl, hn', rfl, _, a', cap', rfl, _, _⟩ := hc
     have hA : Below wr.heap.size wr (wr.alloc (.cells #[.int .u8 k', .int .i64 n', .string s', .slice a' as'.length cap'] 24)) := (Below.refl _ wr).alloc (Nat.le_refl _) _
     have hBA := hB.trans (hA.mono hB.size)
     have HC := Hi (hih _ _ _ _ _ ((hc0.below hBA).mono hBA.size) hwf)
     have HLs := Hi hLs
     have HB := Hi hB
     have HT := Hi htk
     have HBB := Hi hb
     have HHA := Hi hA
     clear e0 e1 e2 e3 hih hwf htk hc0 hI hLs hB hA hBA hb hE
     have i1 : (0 : Int) ≤ (j : Int) := by omega
     have i2 : (j : Int) < (args.length : Int) := by omega
     cases hx : (Tm.mk k' n' s' as').exp with
     | none =>
       rw [hx] at HT
       have HN := Hi (Tm.expL_none_take (j + 1) HT.out)
       have HP := Hi (HC.out.mono (R' := fun e W2 => e = .panicked boom ∧ Below (wr.alloc (.cells #[.int .u8 k', .int .i64 n', .string s', .slice a' as'.length cap'] 24)).heap.size (wr.alloc (.cells #[.int .u8 k', .int .i64 n', .string s', .slice a' as'.length cap'] 24)) W2) (by
         rintro e W2 (⟨ts, v2, h1, _⟩ | ⟨_, h2, h3⟩)
         · rw [hx] at h1; cases h1
         · exact ⟨h2, h3⟩))
       clear HC HT hx
       gi_wp2_with (first | (refine ⟨trivial, rfl, ?_⟩; gi_at_call 33; refine (callsIn_wide.2 HP.out).mono ?_; clear HP; rintro e W2 ⟨rfl, h4⟩))
       have z1 := HHA.out.size
       exact .inr ⟨by rw [Tm.exp_fun, HN.out]; rfl, rfl, HB.out.trans ((HHA.out.mono HB.out.size).trans (h4.mono (by have := HB.out.size; omega)))⟩
     | some tsj =>
       rw [hx] at HT
       have hts := exp_le hx
       have HP := Hi (HC.out.mono (R' := fun e W2 => ∃ a2 n2 c2, e = .returned (.slice a2 n2 c2) ∧ Vals none (wr.alloc (.cells #[.int .u8 k', .int .i64 n', .string s', .slice a' as'.length cap'] 24)).heap.size W2 (.slice a2 n2 c2) tsj ∧ Below (wr.alloc (.cells #[.int .u8 k', .int .i64 n', .string s', .slice a' as'.length cap'] 24)).heap.size (wr.alloc (.cells #[.int .u8 k', .int .i64 n', .string s', .slice a' as'.length cap'] 24)) W2) (by
         rintro e W2 (⟨ts, v2, h1, h2, h3, h4⟩ | ⟨h1, _⟩)
         · rw [hx] at h1; cases h1
           obtain ⟨a2, n2, c2, rfl⟩ := h3.slice
           exact ⟨a2, n2, c2, h2, h3, h4⟩
         · rw [hx] at h1; cases h1))
       clear HC hx
       obtain ⟨i0, hi, hz0, hz1, hz2⟩ := info_parts info_terms
       obtain ⟨vs, hown, hrows⟩ := HLs.out
       have HOW := Hi hown
       have HRW := Hi hrows
       clear hown hrows
       gi_wp2_with (first | (refine ⟨trivial, rfl, ?_⟩; gi_at_call 33; refine (callsIn_wide.2 HP.out).mono ?_; clear HP; rintro e W2 ⟨a2, n2, c2, rfl, hv2, h4⟩) | (gi_at_builtin; refine wpListIn_append_own_at _ rfl _ _ 118 rfl w.heap.size 22 i0 _ 1 24 Tryz.underlying118 hi hz0 hz1 hz2 rfl (by decide) u3 ls.length vs rfl ?c0 _ 1 1 [.slice a2 n2 c2] rfl rfl ?c1 ?c2 ?c3 ?c4 ?c5 ?_))
       case c2 => simp [Value.oneCell']
       case c3 => unfold maxLen; omega
       case c4 => omega
       case c1 => exact cell_one_new _ _ _
       case c5 => have := HHA.out.size; have := h4.size; simp; omega
       case c0 => exact own_grown (own_grown HOW.out HHA.out) (h4.alloc h4.size _)
       intro v' w' hown' hgrow _ hat
       have hBel := HHA.out.trans ((h4.alloc h4.size (.cells #[.slice a2 n2 c2] 22)).mono HHA.out.size)
       have hOW := own_grown HOW.out hBel
       have z1 := HHA.out.size
       have z2 := h4.size
       have z3 := hgrow.size
       rw [World.size_alloc] at z3
       have hBN : Below w.heap.size w w' := (HB.out.trans (hBel.mono HB.out.size)).grown hgrow (by simp; omega) (fun k e => (HOW.out.lt k e).1)
       have hb' : w'.heap[w.heap.size]? = _ := (hgrow.block w.heap.size (by simp; omega) (fun e => own_not hOW ((hBel.block _ (by omega)).trans HBB.out) (by decide) e.symm)).trans ((hBel.block _ (by omega)).trans HBB.out)
       have hL' : ListsT w.heap.size w' v' (ls ++ [tsj]) := ListsT.app hOW
         (fun i hi => by
           obtain ⟨u, hu, hR⟩ := HRW.out i hi
           exact ⟨u, hu, hR.keep fun b hf => ⟨⟨hf.1, Nat.lt_of_lt_of_le hf.2.1 hBel.size, hf.2.2⟩, hBel.block b hf.2.1⟩⟩)
         ((hv2.rowIn (Nat.le_refl _)).keep fun b hf => ⟨⟨by omega, by simp; omega, fun e => by have := (HOW.out.lt b e).2; omega⟩, Below.heap_alloc _ _ _ hf.2⟩) (by rw [hjl]; exact hown') hgrow (by rw [World.size_alloc]; exact hat)
       have HF := Hi (show FnI w.heap.size w #[.int .u8 4, .int .i64 n, .string s, .slice (some ⟨bk, off, none⟩) args.length cap] args v' (.int .i64 ((j + 1 : Nat) : Int)) w' from
         ⟨j + 1, ls ++ [tsj], by omega, rfl, by rw [HT.out]; rfl, by simp [hjl], hL', hBN, hb', by omega⟩)
       clear hown' hgrow hat hBel hOW hBN hb' hL' HRW HOW
       gi_wp2
       go_roundw
       case rel => exact HF.out
       case measure => simp [intOf]; omega
   · have hje : j = args.length := by omega
     subst hje
     rw [List.take_of_length_le (Nat.le_refl _)] at hE
     gi_wp2
     exact ⟨ls, _, _, _, _, _, _, _, _, _, _, _, hE, hjl, hLs, hB, hb, hz, rfl⟩
end Go.Proofs.YtlmdhlckgbgfhaaGreatDoor
namespace Go.Proofs.YtlmdhlckgbgfhaaGreatDoor
open Go.RowKit

theorem applyI_out {o : Ar} {l : List Int} (h : l.any outB = true) : applyI o l = none := if_pos h
theorem applyI_none {o : Ar} {l : List Int} (h : l.any outB = false) (hr : o.run (l.getD 0 0) (l.getD 1 0) = none) : applyI o l = none := by
 unfold applyI; rw [if_neg (by rw [h]; decide), hr]
theorem applyI_some {o : Ar} {l : List Int} {n : Int} (h : l.any outB = false) (hr : o.run (l.getD 0 0) (l.getD 1 0) = some n) (hn : outB n = false) : applyI o l = some n := by
 unfold applyI; rw [if_neg (by rw [h]; decide), hr]; exact if_neg (by rw [hn]; decide)
theorem applyI_far {o : Ar} {l : List Int} {n : Int} (h : l.any outB = false) (hr : o.run (l.getD 0 0) (l.getD 1 0) = some n) (hn : outB n = true) : applyI o l = none := by
 unfold applyI; rw [if_neg (by rw [h]; decide), hr]; exact if_pos hn
theorem IntV.drew {w : World} {v : Value} {l : List Int} (h : IntV w v l) (n : Nat) : IntV (w.drewN n) v l := h.keep (Nat.le_refl _) fun _ _ _ hx => hx
abbrev AppPost (o : Ar) (l : List Int) (w : World) (e : Ending) (w' : World) : Prop := e = .returned (optPair (applyI o l)) ∧ ∃ n, w' = w.drewN n

theorem apply_neg (a : Int) (v : Value) (w : World) (hv : IntV w v [a]) :
   Calls Tryz.prog 87 #[.func (.func 121) #[] #[], v] w (AppPost .neg [a] w) := by
 have HV := Hi hv
 have HC := Hi (containsOut [a] v w hv); clear hv
 cases hany : ([a] : List Int).any outB
 · have HA := Hi hany
   have ho : outB a = false := by simpa using hany
   have ha := ho
   rw [hany] at HC
   clear hany
   have HF := Hi (show Calls _ _ _ w (fun e w' => e = .returned (.tuple #[.int .i64 (-a), .bool true]) ∧ ∃ n, w' = w.drewN n) from (neg_any a v w HV.out ha).mono fun _ _ ⟨h1, h2⟩ => ⟨h1, h2⟩)
   cases ho : outB (-a)
   · have HS := Hi (applyI_some (o := .neg) (l := [a]) HA.out rfl ho)
     have HO := Hi (fun w => outside_any (-a) w)
     rw [ho] at HO
     clear ho ha
     go_enter Tryz.func87, Tryz.ntmps87
     go_wp2_with (first | (go_at_call 131; refine HC.out.mono ?_; clear HC; rintro e w' ⟨rfl, rfl⟩) | (go_at_call 121; refine HF.out.mono ?_; clear HF; rintro e w' ⟨rfl, n1, rfl⟩) | (go_at_call 132; refine (HO.out _).mono ?_; rintro e w' ⟨rfl, rfl⟩))
     go_ret2
     exact ⟨by rw [HS.out]; rfl, n1, rfl⟩
   · have HS := Hi (applyI_far (o := .neg) (l := [a]) HA.out rfl ho)
     have HO := Hi (fun w => outside_any (-a) w)
     rw [ho] at HO
     clear ho ha
     go_enter Tryz.func87, Tryz.ntmps87
     go_wp2_with (first | (go_at_call 131; refine HC.out.mono ?_; clear HC; rintro e w' ⟨rfl, rfl⟩) | (go_at_call 121; refine HF.out.mono ?_; clear HF; rintro e w' ⟨rfl, n1, rfl⟩) | (go_at_call 132; refine (HO.out _).mono ?_; rintro e w' ⟨rfl, rfl⟩))
     go_ret2
     exact ⟨by rw [HS.out]; rfl, n1, rfl⟩
 · have HS := Hi (applyI_out (o := .neg) (l := [a]) hany)
   rw [hany] at HC
   clear hany
   go_enter Tryz.func87, Tryz.ntmps87
   go_wp2_with (go_at_call 131; refine HC.out.mono ?_; clear HC; rintro e w' ⟨rfl, rfl⟩)
   go_ret2
   exact ⟨by rw [HS.out]; rfl, 0, rfl⟩

theorem apply_add (a b : Int) (v : Value) (w : World) (hv : IntV w v [a, b]) :
   Calls Tryz.prog 87 #[.func (.func 122) #[] #[], v] w (AppPost .add [a, b] w) := by
 have HV := Hi hv
 have HC := Hi (containsOut [a, b] v w hv); clear hv
 cases hany : ([a, b] : List Int).any outB
 · have HA := Hi hany
   have ho : outB a = false ∧ outB b = false := by simpa using hany
   obtain ⟨ha, hb⟩ := ho
   rw [hany] at HC
   clear hany
   have HF := Hi (show Calls _ _ _ w (fun e w' => e = .returned (.tuple #[.int .i64 (a + b), .bool true]) ∧ ∃ n, w' = w.drewN n) from (add_any a b v w HV.out ha hb).mono fun _ _ ⟨h1, h2⟩ => ⟨h1, h2⟩)
   cases ho : outB (a + b)
   · have HS := Hi (applyI_some (o := .add) (l := [a, b]) HA.out rfl ho)
     have HO := Hi (fun w => outside_any (a + b) w)
     rw [ho] at HO
     clear ho ha hb
     go_enter Tryz.func87, Tryz.ntmps87
     go_wp2_with (first | (go_at_call 131; refine HC.out.mono ?_; clear HC; rintro e w' ⟨rfl, rfl⟩) | (go_at_call 122; refine HF.out.mono ?_; clear HF; rintro e w' ⟨rfl, n1, rfl⟩) | (go_at_call 132; refine (HO.out _).mono ?_; rintro e w' ⟨rfl, rfl⟩))
     go_ret2
     exact ⟨by rw [HS.out]; rfl, n1, rfl⟩
   · have HS := Hi (applyI_far (o := .add) (l := [a, b]) HA.out rfl ho)
     have HO := Hi (fun w => outside_any (a + b) w)
     rw [ho] at HO
     clear ho ha hb
     go_enter Tryz.func87, Tryz.ntmps87
     go_wp2_with (first | (go_at_call 131; refine HC.out.mono ?_; clear HC; rintro e w' ⟨rfl, rfl⟩) | (go_at_call 122; refine HF.out.mono ?_; clear HF; rintro e w' ⟨rfl, n1, rfl⟩) | (go_at_call 132; refine (HO.out _).mono ?_; rintro e w' ⟨rfl, rfl⟩))
     go_ret2
     exact ⟨by rw [HS.out]; rfl, n1, rfl⟩
 · have HS := Hi (applyI_out (o := .add) (l := [a, b]) hany)
   rw [hany] at HC
   clear hany
   go_enter Tryz.func87, Tryz.ntmps87
   go_wp2_with (go_at_call 131; refine HC.out.mono ?_; clear HC; rintro e w' ⟨rfl, rfl⟩)
   go_ret2
   exact ⟨by rw [HS.out]; rfl, 0, rfl⟩

theorem apply_sub (a b : Int) (v : Value) (w : World) (hv : IntV w v [a, b]) :
   Calls Tryz.prog 87 #[.func (.func 123) #[] #[], v] w (AppPost .sub [a, b] w) := by
 have HV := Hi hv
 have HC := Hi (containsOut [a, b] v w hv); clear hv
 cases hany : ([a, b] : List Int).any outB
 · have HA := Hi hany
   have ho : outB a = false ∧ outB b = false := by simpa using hany
   obtain ⟨ha, hb⟩ := ho
   rw [hany] at HC
   clear hany
   have HF := Hi (show Calls _ _ _ w (fun e w' => e = .returned (.tuple #[.int .i64 (a - b), .bool true]) ∧ ∃ n, w' = w.drewN n) from (sub_any a b v w HV.out ha hb).mono fun _ _ ⟨h1, h2⟩ => ⟨h1, h2⟩)
   cases ho : outB (a - b)
   · have HS := Hi (applyI_some (o := .sub) (l := [a, b]) HA.out rfl ho)
     have HO := Hi (fun w => outside_any (a - b) w)
     rw [ho] at HO
     clear ho ha hb
     go_enter Tryz.func87, Tryz.ntmps87
     go_wp2_with (first | (go_at_call 131; refine HC.out.mono ?_; clear HC; rintro e w' ⟨rfl, rfl⟩) | (go_at_call 123; refine HF.out.mono ?_; clear HF; rintro e w' ⟨rfl, n1, rfl⟩) | (go_at_call 132; refine (HO.out _).mono ?_; rintro e w' ⟨rfl, rfl⟩))
     go_ret2
     exact ⟨by rw [HS.out]; rfl, n1, rfl⟩
   · have HS := Hi (applyI_far (o := .sub) (l := [a, b]) HA.out rfl ho)
     have HO := Hi (fun w => outside_any (a - b) w)
     rw [ho] at HO
     clear ho ha hb
     go_enter Tryz.func87, Tryz.ntmps87
     go_wp2_with (first | (go_at_call 131; refine HC.out.mono ?_; clear HC; rintro e w' ⟨rfl, rfl⟩) | (go_at_call 123; refine HF.out.mono ?_; clear HF; rintro e w' ⟨rfl, n1, rfl⟩) | (go_at_call 132; refine (HO.out _).mono ?_; rintro e w' ⟨rfl, rfl⟩))
     go_ret2
     exact ⟨by rw [HS.out]; rfl, n1, rfl⟩
 · have HS := Hi (applyI_out (o := .sub) (l := [a, b]) hany)
   rw [hany] at HC
   clear hany
   go_enter Tryz.func87, Tryz.ntmps87
   go_wp2_with (go_at_call 131; refine HC.out.mono ?_; clear HC; rintro e w' ⟨rfl, rfl⟩)
   go_ret2
   exact ⟨by rw [HS.out]; rfl, 0, rfl⟩

theorem apply_mul (a b : Int) (v : Value) (w : World) (hv : IntV w v [a, b]) :
   Calls Tryz.prog 87 #[.func (.func 124) #[] #[], v] w (AppPost .mul [a, b] w) := by
 have HV := Hi hv
 have HC := Hi (containsOut [a, b] v w hv); clear hv
 cases hany : ([a, b] : List Int).any outB
 · have HA := Hi hany
   have ho : outB a = false ∧ outB b = false := by simpa using hany
   obtain ⟨ha, hb⟩ := ho
   rw [hany] at HC
   clear hany
   have HF := Hi (show Calls _ _ _ w (fun e w' => e = .returned (.tuple #[.int .i64 (a * b), .bool true]) ∧ ∃ n, w' = w.drewN n) from (mul_any a b v w HV.out ha hb).mono fun _ _ ⟨h1, h2⟩ => ⟨h1, h2⟩)
   cases ho : outB (a * b)
   · have HS := Hi (applyI_some (o := .mul) (l := [a, b]) HA.out rfl ho)
     have HO := Hi (fun w => outside_any (a * b) w)
     rw [ho] at HO
     clear ho ha hb
     go_enter Tryz.func87, Tryz.ntmps87
     go_wp2_with (first | (go_at_call 131; refine HC.out.mono ?_; clear HC; rintro e w' ⟨rfl, rfl⟩) | (go_at_call 124; refine HF.out.mono ?_; clear HF; rintro e w' ⟨rfl, n1, rfl⟩) | (go_at_call 132; refine (HO.out _).mono ?_; rintro e w' ⟨rfl, rfl⟩))
     go_ret2
     exact ⟨by rw [HS.out]; rfl, n1, rfl⟩
   · have HS := Hi (applyI_far (o := .mul) (l := [a, b]) HA.out rfl ho)
     have HO := Hi (fun w => outside_any (a * b) w)
     rw [ho] at HO
     clear ho ha hb
     go_enter Tryz.func87, Tryz.ntmps87
     go_wp2_with (first | (go_at_call 131; refine HC.out.mono ?_; clear HC; rintro e w' ⟨rfl, rfl⟩) | (go_at_call 124; refine HF.out.mono ?_; clear HF; rintro e w' ⟨rfl, n1, rfl⟩) | (go_at_call 132; refine (HO.out _).mono ?_; rintro e w' ⟨rfl, rfl⟩))
     go_ret2
     exact ⟨by rw [HS.out]; rfl, n1, rfl⟩
 · have HS := Hi (applyI_out (o := .mul) (l := [a, b]) hany)
   rw [hany] at HC
   clear hany
   go_enter Tryz.func87, Tryz.ntmps87
   go_wp2_with (go_at_call 131; refine HC.out.mono ?_; clear HC; rintro e w' ⟨rfl, rfl⟩)
   go_ret2
   exact ⟨by rw [HS.out]; rfl, 0, rfl⟩

theorem apply_quo (a b : Int) (v : Value) (w : World) (hv : IntV w v [a, b]) :
   Calls Tryz.prog 87 #[.func (.func 125) #[] #[], v] w (AppPost .quo [a, b] w) := by
 have HV := Hi hv
 have HC := Hi (containsOut [a, b] v w hv); clear hv
 cases hany : ([a, b] : List Int).any outB
 · have HA := Hi hany
   have ho : outB a = false ∧ outB b = false := by simpa using hany
   obtain ⟨ha, hb⟩ := ho
   rw [hany] at HC
   clear hany
   by_cases h0 : b = 0
   · have hr : Ar.run .quo a b = none := if_pos h0
     have HS := Hi (applyI_none (o := .quo) (l := [a, b]) HA.out hr)
     have HF := Hi (show Calls _ _ _ w (fun e w' => e = .returned (.tuple #[.int .i64 0, .bool false]) ∧ ∃ n, w' = w.drewN n) from (quo_any a b v w HV.out ha hb).mono fun _ _ ⟨h1, h2⟩ => ⟨by rw [h1, hr]; rfl, h2⟩)
     clear ha hb h0 hr
     go_enter Tryz.func87, Tryz.ntmps87
     go_wp2_with (first | (go_at_call 131; refine HC.out.mono ?_; clear HC; rintro e w' ⟨rfl, rfl⟩) | (go_at_call 125; refine HF.out.mono ?_; clear HF; rintro e w' ⟨rfl, n1, rfl⟩))
     go_ret2
     exact ⟨by rw [HS.out]; rfl, n1, rfl⟩
   · have hr : Ar.run .quo a b = some (a.tdiv b) := if_neg h0
     have HF := Hi (show Calls _ _ _ w (fun e w' => e = .returned (.tuple #[.int .i64 (a.tdiv b), .bool true]) ∧ ∃ n, w' = w.drewN n) from (quo_any a b v w HV.out ha hb).mono fun _ _ ⟨h1, h2⟩ => ⟨by rw [h1, hr]; rfl, h2⟩)
     cases ho : outB (a.tdiv b)
     · have HS := Hi (applyI_some (o := .quo) (l := [a, b]) HA.out hr ho)
       have HO := Hi (fun w => outside_any (a.tdiv b) w)
       rw [ho] at HO
       clear ho ha hb h0 hr
       go_enter Tryz.func87, Tryz.ntmps87
       go_wp2_with (first | (go_at_call 131; refine HC.out.mono ?_; clear HC; rintro e w' ⟨rfl, rfl⟩) | (go_at_call 125; refine HF.out.mono ?_; clear HF; rintro e w' ⟨rfl, n1, rfl⟩) | (go_at_call 132; refine (HO.out _).mono ?_; rintro e w' ⟨rfl, rfl⟩))
       go_ret2
       exact ⟨by rw [HS.out]; rfl, n1, rfl⟩
     · have HS := Hi (applyI_far (o := .quo) (l := [a, b]) HA.out hr ho)
       have HO := Hi (fun w => outside_any (a.tdiv b) w)
       rw [ho] at HO
       clear ho ha hb h0 hr
       go_enter Tryz.func87, Tryz.ntmps87
       go_wp2_with (first | (go_at_call 131; refine HC.out.mono ?_; clear HC; rintro e w' ⟨rfl, rfl⟩) | (go_at_call 125; refine HF.out.mono ?_; clear HF; rintro e w' ⟨rfl, n1, rfl⟩) | (go_at_call 132; refine (HO.out _).mono ?_; rintro e w' ⟨rfl, rfl⟩))
       go_ret2
       exact ⟨by rw [HS.out]; rfl, n1, rfl⟩
 · have HS := Hi (applyI_out (o := .quo) (l := [a, b]) hany)
   rw [hany] at HC
   clear hany
   go_enter Tryz.func87, Tryz.ntmps87
   go_wp2_with (go_at_call 131; refine HC.out.mono ?_; clear HC; rintro e w' ⟨rfl, rfl⟩)
   go_ret2
   exact ⟨by rw [HS.out]; rfl, 0, rfl⟩

theorem apply_rem (a b : Int) (v : Value) (w : World) (hv : IntV w v [a, b]) :
   Calls Tryz.prog 87 #[.func (.func 126) #[] #[], v] w (AppPost .rem [a, b] w) := by
 have HV := Hi hv
 have HC := Hi (containsOut [a, b] v w hv); clear hv
 cases hany : ([a, b] : List Int).any outB
 · have HA := Hi hany
   have ho : outB a = false ∧ outB b = false := by simpa using hany
   obtain ⟨ha, hb⟩ := ho
   rw [hany] at HC
   clear hany
   by_cases h0 : b = 0
   · have hr : Ar.run .rem a b = none := if_pos h0
     have HS := Hi (applyI_none (o := .rem) (l := [a, b]) HA.out hr)
     have HF := Hi (show Calls _ _ _ w (fun e w' => e = .returned (.tuple #[.int .i64 0, .bool false]) ∧ ∃ n, w' = w.drewN n) from (rem_any a b v w HV.out ha hb).mono fun _ _ ⟨h1, h2⟩ => ⟨by rw [h1, hr]; rfl, h2⟩)
     clear ha hb h0 hr
     go_enter Tryz.func87, Tryz.ntmps87
     go_wp2_with (first | (go_at_call 131; refine HC.out.mono ?_; clear HC; rintro e w' ⟨rfl, rfl⟩) | (go_at_call 126; refine HF.out.mono ?_; clear HF; rintro e w' ⟨rfl, n1, rfl⟩))
     go_ret2
     exact ⟨by rw [HS.out]; rfl, n1, rfl⟩
   · have hr : Ar.run .rem a b = some (a.tmod b) := if_neg h0
     have HF := Hi (show Calls _ _ _ w (fun e w' => e = .returned (.tuple #[.int .i64 (a.tmod b), .bool true]) ∧ ∃ n, w' = w.drewN n) from (rem_any a b v w HV.out ha hb).mono fun _ _ ⟨h1, h2⟩ => ⟨by rw [h1, hr]; rfl, h2⟩)
     cases ho : outB (a.tmod b)
     · have HS := Hi (applyI_some (o := .rem) (l := [a, b]) HA.out hr ho)
       have HO := Hi (fun w => outside_any (a.tmod b) w)
       rw [ho] at HO
       clear ho ha hb h0 hr
       go_enter Tryz.func87, Tryz.ntmps87
       go_wp2_with (first | (go_at_call 131; refine HC.out.mono ?_; clear HC; rintro e w' ⟨rfl, rfl⟩) | (go_at_call 126; refine HF.out.mono ?_; clear HF; rintro e w' ⟨rfl, n1, rfl⟩) | (go_at_call 132; refine (HO.out _).mono ?_; rintro e w' ⟨rfl, rfl⟩))
       go_ret2
       exact ⟨by rw [HS.out]; rfl, n1, rfl⟩
     · have HS := Hi (applyI_far (o := .rem) (l := [a, b]) HA.out hr ho)
       have HO := Hi (fun w => outside_any (a.tmod b) w)
       rw [ho] at HO
       clear ho ha hb h0 hr
       go_enter Tryz.func87, Tryz.ntmps87
       go_wp2_with (first | (go_at_call 131; refine HC.out.mono ?_; clear HC; rintro e w' ⟨rfl, rfl⟩) | (go_at_call 126; refine HF.out.mono ?_; clear HF; rintro e w' ⟨rfl, n1, rfl⟩) | (go_at_call 132; refine (HO.out _).mono ?_; rintro e w' ⟨rfl, rfl⟩))
       go_ret2
       exact ⟨by rw [HS.out]; rfl, n1, rfl⟩
 · have HS := Hi (applyI_out (o := .rem) (l := [a, b]) hany)
   rw [hany] at HC
   clear hany
   go_enter Tryz.func87, Tryz.ntmps87
   go_wp2_with (go_at_call 131; refine HC.out.mono ?_; clear HC; rintro e w' ⟨rfl, rfl⟩)
   go_ret2
   exact ⟨by rw [HS.out]; rfl, 0, rfl⟩

theorem apply_any (o : Ar) (l : List Int) (hl : l.length = o.arity) (v : Value) (w : World) (hv : IntV w v l) :
   Calls Tryz.prog 87 #[.func (.func (fnAr o)) #[] #[], v] w (AppPost o l w) := by
 cases o
 · match l, hl with | [a], _ => exact apply_neg a v w hv
 · match l, hl with | [a, b], _ => exact apply_add a b v w hv
 · match l, hl with | [a, b], _ => exact apply_sub a b v w hv
 · match l, hl with | [a, b], _ => exact apply_mul a b v w hv
 · match l, hl with | [a, b], _ => exact apply_quo a b v w hv
 · match l, hl with | [a, b], _ => exact apply_rem a b v w hv
end Go.Proofs.YtlmdhlckgbgfhaaGreatDoor
namespace Go.Proofs.YtlmdhlckgbgfhaaGreatDoor
open Go.RowKit Go.Maps

def keyS (s : ByteArray) (n : Int) : Lit := .string (keyBytes [.string s.data.toList, .int .i64 n])
theorem few_types : Tryz.prog.types.size + 2 ≤ 10000 ∧ 132 < Tryz.prog.types.size ∧ 0 < Tryz.prog.types.size :=
 ⟨of_decide_eq_true (by kernel_rfl), of_decide_eq_true (by kernel_rfl), of_decide_eq_true (by kernel_rfl)⟩
theorem sign_keyed : Keyed Tryz.prog 132 := Keyed.of_law (deep_law_gate (by kernel_rfl) few_types.1 few_types.2.1 (by kernel_rfl) (by kernel_rfl))
def signOk (k : Option TypeDesc) : Bool := match k with
 | some (.struct fs) => (fs.toList.map fun f => (f.type, f.offset)) == [(9, 0), (3, 1)] && fs.all (fun f => f.name != "_")
 | _ => false
theorem sign_ok : signOk (Tryz.prog.underlying 132) = true := by kernel_rfl
theorem sign_fields : ∃ fs, Tryz.prog.underlying 132 = some (.struct fs) ∧ fs.all (fun f => f.name != "_") = true ∧ ∃ f g, fs.toList = [f, g] ∧ f.type = 9 ∧ f.offset = 0 ∧ g.type = 3 ∧ g.offset = 1 := by
 have h := sign_ok
 unfold signOk at h
 split at h
 · rename_i fs hfs
   rw [Bool.and_eq_true] at h
   refine ⟨fs, hfs, h.2, ?_⟩
   have h1 := beq_iff_eq.1 h.1
   have hlen : fs.toList.length = 2 := by have := congrArg List.length h1; simpa using this
   match hl : fs.toList, hlen with
   | [f, g], _ =>
     rw [hl] at h1
     simp at h1
     exact ⟨f, g, rfl, h1.1.1, h1.1.2, h1.2.1, h1.2.2⟩
 · cases h
theorem keyS_of (s : ByteArray) (n : Int) (hs : s.size ≤ maxLen) (hn : I64 n) : keyOf Tryz.prog 132 (.agg #[.string s, .int .i64 n]) = some (keyS s n) := by
 obtain ⟨fs, hu, hall, f, g, hfg, hf, hf0, hg, hg1⟩ := sign_fields
 have hc : Tryz.prog.cellsOf 132 = 2 := by kernel_rfl
 have hk : Tryz.prog.keyType 132 = true := by kernel_rfl
 have c1 : Tryz.prog.cellsOf 9 = 1 := by kernel_rfl
 have c2 : Tryz.prog.cellsOf 3 = 1 := by kernel_rfl
 have us : Tryz.prog.underlying 9 = some .string := by kernel_rfl
 have ui : Tryz.prog.underlying 3 = some (.int .i64) := by kernel_rfl
 obtain ⟨m, hm⟩ : ∃ m, Tryz.prog.types.size = m + 1 := ⟨Tryz.prog.types.size - 1, (Nat.sub_add_cancel few_types.2.2).symm⟩
 have hform : (Value.agg #[.string s, .int .i64 n]).formed Tryz.prog 132 = true := by simp [Value.formed, hu, hc]
 unfold keyOf
 rw [hu]
 simp only [hk, hform, Bool.and_self, if_true, Value.cells, hm]
 rw [Program.keyLits.eq_def]
 simp only [hu, hc, hall, hfg, List.length_cons, List.length_nil, true_and, if_true, Nat.reduceAdd, List.mapM_cons, List.mapM_nil, hf, hg, hf0, hg1, c1, c2]
 have k1 : Tryz.prog.keyLits (m + 1) 9 [.string s] = some [.string s.data.toList] := by rw [Program.keyLits.eq_def]; simp [us, hs]
 have k2 : Tryz.prog.keyLits (m + 1) 3 [.int .i64 n] = some [.int .i64 n] := by rw [Program.keyLits.eq_def]; simp [ui]; exact hn
 simp [k1, k2, keyS]
abbrev OpKey : Type := Nat × List UInt8 × Nat × Ar
def opKeys : List OpKey := [(2, [45], 1, .neg), (4, [43], 2, .add), (6, [45], 2, .sub), (8, [42], 2, .mul), (10, [47], 2, .quo), (12, [92], 2, .rem)]
def kL (k : OpKey) : Lit := keyS ⟨k.2.1.toArray⟩ k.2.2.1
theorem opKeys_ix : ∀ k ∈ opKeys, ∀ k' ∈ opKeys, k.1 = k'.1 → k = k' := by decide
theorem opKeys_key : ∀ k ∈ opKeys, ∀ k' ∈ opKeys, k.2.1 = k'.2.1 → k.2.2.1 = k'.2.2.1 → k = k' := by decide
theorem opKeys_small : ∀ k ∈ opKeys, k.2.1.length ≤ 1 ∧ k.2.2.1 ≤ 2 ∧ k.1 < 15 ∧ k.1 ≠ 0 := by decide
theorem i64_nat {n : Nat} (h : n ≤ 2) : I64 (n : Int) := by
 have h' : -9223372036854775808 ≤ (n : Int) ∧ (n : Int) ≤ 9223372036854775807 := by omega
 unfold I64 Lit.wf
 simp only [Bool.and_eq_true, decide_eq_true_eq]
 exact h'
theorem kL_of {k : OpKey} (hk : k ∈ opKeys) : keyOf Tryz.prog 132 (.agg #[.string ⟨k.2.1.toArray⟩, .int .i64 (k.2.2.1 : Int)]) = some (kL k) :=
 keyS_of _ _ (by have := (opKeys_small k hk).1; show k.2.1.toArray.size ≤ maxLen; unfold maxLen; simp; omega) (i64_nat (opKeys_small k hk).2.1)
theorem kL_inj {k k' : OpKey} (hk : k ∈ opKeys) (hk' : k' ∈ opKeys) (h : kL k = kL k') : k = k' := by
 have := sign_keyed.inj (kL_of hk) (h ▸ kL_of hk')
 simp at this
 exact opKeys_key k hk k' hk' this.1 (by omega)

def cntL (l : Array Bool) : Nat := (opKeys.map fun k => if l.getD k.1 false = true then 1 else 0).sum
theorem cntL_le (l : Array Bool) : cntL l ≤ 6 := by
 have h : ∀ b : Bool, (if b = true then 1 else 0) ≤ 1 := by intro b; split <;> omega
 simp only [cntL, opKeys, List.map_cons, List.map_nil, List.sum_cons, List.sum_nil]
 have h1 := h (l.getD 2 false)
 have h2 := h (l.getD 4 false)
 have h3 := h (l.getD 6 false)
 have h4 := h (l.getD 8 false)
 have h5 := h (l.getD 10 false)
 have h6 := h (l.getD 12 false)
 omega
theorem getD_put {l : Array Bool} (i j : Nat) (hi : i < l.size) : (l.setIfInBounds i true).getD j false = (decide (j = i) || l.getD j false) := by
 by_cases h : j = i
 · subst h; simp [Array.getD_eq_getD_getElem?, hi]
 · simp [Array.getD_eq_getD_getElem?, Array.getElem?_setIfInBounds_ne (fun e => h e.symm), h]
theorem cntL_put {l : Array Bool} {k : OpKey} (hk : k ∈ opKeys) (hs : l.size = 15) (hl : l.getD k.1 false = false) : cntL (l.setIfInBounds k.1 true) = cntL l + 1 := by
 have e := fun j => getD_put (l := l) k.1 j (by have := (opKeys_small k hk).2.2.1; omega)
 simp only [cntL, opKeys, List.map_cons, List.map_nil, List.sum_cons, List.sum_nil, e]
 simp only [opKeys, List.mem_cons, List.not_mem_nil, or_false] at hk
 rcases hk with rfl | rfl | rfl | rfl | rfl | rfl <;> simp at hl <;> simp [hl] <;> omega

def MapInv (B : Nat) (l : Array Bool) (w : World) : Prop :=
 (l.getD 0 false = false → w.heap.size = B ∧ ∀ k ∈ opKeys, l.getD k.1 false = false) ∧
 (l.getD 0 false = true → ∃ D : DataW Unit, w.ownsMap Tryz.prog 132 fnElem B (cntL l) D ∧ IsMap D ∧
   (∀ kl, Maps.has D kl = true ↔ ∃ k ∈ opKeys, l.getD k.1 false = true ∧ kl = kL k) ∧ ∀ k ∈ opKeys, l.getD k.1 false = true → ∀ z, D.atKey (kL k) z = .lit (.int .i64 (fnAr k.2.2.2 : Int)))

theorem MapInv.ins {B : Nat} {l : Array Bool} {w : World} (h : MapInv B l w) (hs : l.size = 15) {k : OpKey} (hk : k ∈ opKeys) (h0 : l.getD 0 false = true) (hn : l.getD k.1 false = false) :
   ∃ w', (Instr.mapUpdate 129 (.map (some B)) (.agg #[.string ⟨k.2.1.toArray⟩, .int .i64 (k.2.2.1 : Int)]) (.func (.func (fnAr k.2.2.2)) #[] #[])).run Tryz.prog w = .ok () w' ∧ MapInv B (l.setIfInBounds k.1 true) w' ∧ w.grownBy w' (some B) := by
 obtain ⟨D, hown, hm, hh, ha⟩ := h.2 h0
 have hc := cntL_le l
 have hv : fnElem (H := Unit) (.func (.func (fnAr k.2.2.2)) #[] #[]) = some (.lit (.int .i64 (fnAr k.2.2.2 : Int)), []) := rfl
 obtain ⟨w', hrun, ho, hg⟩ := hown.update sign_keyed Tryz.underlying129 (by unfold maxLen; omega) (kL_of hk) hv
 have hi := (opKeys_small k hk).2.2.1
 have e := fun j => getD_put (l := l) k.1 j (by omega)
 have hK := sign_keyed.key (kL_of hk)
 refine ⟨w', hrun, ⟨fun h1 => ?_, fun _ => ⟨_, by rw [cntL_put hk hs hn]; exact ho, hm.put _ _, fun kl => ?_, fun k' hk' hl' z => ?_⟩⟩, hg⟩
 · rw [e, h0] at h1; simp at h1
 · by_cases hkl : kl = kL k
   · subst hkl
     exact ⟨fun _ => ⟨k, hk, by rw [e]; simp, rfl⟩, fun _ => Maps.has_put_same hm hK _⟩
   · rw [Maps.has_put_other hkl, hh]
     constructor
     · rintro ⟨k', h1, h2, h3⟩; exact ⟨k', h1, by rw [e, h2]; simp, h3⟩
     · rintro ⟨k', h1, h2, h3⟩
       rw [e] at h2
       refine ⟨k', h1, ?_, h3⟩
       rcases Bool.or_eq_true _ _ ▸ h2 with h4 | h4
       · exact absurd (h3.trans (by rw [opKeys_ix k' h1 k hk (by simpa using h4)])) hkl
       · exact h4
 · by_cases hkk : k' = k
   · subst hkk; exact Maps.atKey_put_same hm hK _ z
   · rw [Maps.atKey_put_other (fun e' => hkk (kL_inj hk' hk e'))]
     rw [e] at hl'
     refine ha k' hk' ?_ z
     rcases Bool.or_eq_true _ _ ▸ hl' with h4 | h4
     · exact absurd (opKeys_ix k' hk' k hk (by simpa using h4)) hkk
     · exact h4

def OpsMap (w : World) (B : Nat) : Prop := ∃ D : DataW Unit, w.ownsMap Tryz.prog 132 fnElem B 6 D ∧ IsMap D ∧
   (∀ kl, Maps.has D kl = true ↔ ∃ k ∈ opKeys, kl = kL k) ∧ ∀ k ∈ opKeys, ∀ z, D.atKey (kL k) z = .lit (.int .i64 (fnAr k.2.2.2 : Int))

def opVals (B : Nat) : List Value := [.map (some B), .agg #[.string ⟨#[45]⟩, .int .i64 1], undef, .agg #[.string ⟨#[43]⟩, .int .i64 2], undef, .agg #[.string ⟨#[45]⟩, .int .i64 2], undef,
 .agg #[.string ⟨#[42]⟩, .int .i64 2], undef, .agg #[.string ⟨#[47]⟩, .int .i64 2], undef, .agg #[.string ⟨#[92]⟩, .int .i64 2], undef, .map (some B), .map (some B)]
def FO (B : Nat) : Facts := fun i v _ => v = (opVals B).getD i undef

theorem all_slots (a : Array Value) (n : Nat) (h : a.size = n) : a = ((List.range n).map (fun i => a.getD i undef)).toArray := by
 apply Array.ext
 · simp [h]
 · intro i h1 h2
   simp [Array.getD_eq_getD_getElem?, h1]
theorem regInv_zero {ops : Array Oper} {Φ : Facts} {a0 : Act} {w0 : World} : RegInv ops Φ a0 w0 (Array.replicate ops.size false) a0 w0 := by
 refine ⟨by simp, Below.refl _ _, rfl, rfl, fun _ _ => rfl, ?_⟩
 intro i o d ho hl _
 have hi := (gL ho)
 simp [Array.getD_eq_getD_getElem?, hi] at hl
theorem regInv_put {ops : Array Oper} {B : Nat} {a0 : Act} {w0 : World} (hok : regionOk ops a0.tmps.size = true) {l : Array Bool} {a : Act} (hJ : RegInv ops (FO B) a0 w0 l a w0) {i : Nat} {o : Oper} (ho : ops[i]? = some o) {v : Value} (hv : ∀ d, o.dst = some d → v = (opVals B).getD i undef) :
   RegInv ops (FO B) a0 w0 (l.setIfInBounds i true) (a.put o.dst v) w0 := hJ.put (fun _ _ _ _ h _ => h) hok ho bR hv

theorem wp_value {P : Program} {o : Oper} {a : Act} {w w' : World} {v : Value} {R : Act → World → Prop} {Q : Exit → Act → World → Prop} (hr : (execOp a.eval o).run P w = .ok (.value v) w') (h : R (a.put o.dst v) w') : o.wp P a w R Q := by
 unfold Oper.wp; rw [hr]; exact h
theorem wp_skip {P : Program} {o : Oper} {a : Act} {w w' : World} {R : Act → World → Prop} {Q : Exit → Act → World → Prop} (hr : (execOp a.eval o).run P w = .ok .skip w') (h : R (a.put o.dst undef) w') : o.wp P a w R Q := by
 unfold Oper.wp; rw [hr]; exact h
theorem Act.eval_tmp (a : Act) (t : Tmp) : a.eval (.tmp t) = a.tmps.getD t undef := by
 unfold Act.eval; simp [Array.getD_eq_getD_getElem?]
theorem run_ins {P : Program} {w w' : World} {i : Sem Unit} (h : i.run P w = .ok () w') : (do i; pure Next.skip : Sem Next).run P w = .ok .skip w' := by
 simp [h, Result.andThen]
theorem MapInv.other {B : Nat} {l : Array Bool} {w : World} (h : MapInv B l w) {i : Nat} (h0 : i ≠ 0) (hi : ∀ k ∈ opKeys, k.1 ≠ i) (hs : i < l.size) : MapInv B (l.setIfInBounds i true) w := by
 have e : ∀ j, j ≠ i → (l.setIfInBounds i true).getD j false = l.getD j false := fun j hj => by rw [getD_put i j hs]; simp [hj]
 have ec : cntL (l.setIfInBounds i true) = cntL l := by
   simp only [cntL, opKeys, List.map_cons, List.map_nil, List.sum_cons, List.sum_nil]
   rw [e 2 (hi (2, [45], 1, .neg) (by simp [opKeys])), e 4 (hi (4, [43], 2, .add) (by simp [opKeys])), e 6 (hi (6, [45], 2, .sub) (by simp [opKeys])), e 8 (hi (8, [42], 2, .mul) (by simp [opKeys])), e 10 (hi (10, [47], 2, .quo) (by simp [opKeys])), e 12 (hi (12, [92], 2, .rem) (by simp [opKeys]))]
 refine ⟨fun h1 => ?_, fun h1 => ?_⟩
 · rw [e 0 (Ne.symm h0)] at h1
   exact ⟨(h.1 h1).1, fun k hk => by rw [e k.1 (hi k hk)]; exact (h.1 h1).2 k hk⟩
 · rw [e 0 (Ne.symm h0)] at h1
   obtain ⟨D, ho, hm, hh, ha⟩ := h.2 h1
   refine ⟨D, by rw [ec]; exact ho, hm, fun kl => ?_, fun k hk hl => ha k hk (by rw [e k.1 (hi k hk)] at hl; exact hl)⟩
   rw [hh]
   exact ⟨fun ⟨k, h1, h2, h3⟩ => ⟨k, h1, by rw [e k.1 (hi k h1)]; exact h2, h3⟩, fun ⟨k, h1, h2, h3⟩ => ⟨k, h1, by rw [e k.1 (hi k h1)] at h2; exact h2, h3⟩⟩

theorem operations_any (w : World) : Calls Tryz.prog 85 #[] w fun e w' => e = .returned (.map (some w.heap.size)) ∧ OpsMap w' w.heap.size ∧ Below w.heap.size w w' := by
 have hmm := @run_makeMap Tryz.prog
 go_enter Tryz.func85, Tryz.ntmps85
 go_wp2_with fail
 refine wp_region_any (by kernel_rfl) (wpAny_inv (n := 9) (by kernel_rfl) (fun l a W => RegInv _ (FO w.heap.size) _ w l a w ∧ Below w.heap.size w W ∧ MapInv w.heap.size l W) (fun l a W h => h.1.size) ?step ?fin _ _ _ _ ⟨regInv_zero, (Below.refl _ w).drew, fun _ => ⟨rfl, fun k hk => ?start⟩, fun h => ?start2⟩ ?fuel)
 case start => simp only [opKeys, List.mem_cons, List.not_mem_nil, or_false] at hk; rcases hk with rfl | rfl | rfl | rfl | rfl | rfl <;> rfl
 case start2 => cases h
 case fuel => exact Nat.le_trans (List.length_filter_le _ _) (by simp)
 case step =>
   rintro l a W i o ⟨hJ, hB, hM⟩ hl ho hie
   have hs : l.size = 15 := hJ.size
   have hi : i < 15 := (gL ho)
   match i, hi with
   | 0, _ =>
     cases (show some _ = some o from ho)
     refine wpOp_of rfl rfl ?_
     obtain ⟨hsz, hnone⟩ := hM.1 (by simpa [Array.getD_eq_getD_getElem?, hs] using hl)
     refine wp_value (v := .map (some W.heap.size)) (w' := W.alloc (.map #[] 0)) (by go_simp) ?_
     refine ⟨regInv_put (by kernel_rfl) hJ rfl fun _ _ => by rw [hsz]; rfl, hB.alloc (by omega) _, fun h => ?_, fun _ => ⟨.map [], ?_, Maps.isMap_empty, fun kl => ?_, fun k hk h => ?_⟩⟩
     · rw [getD_put 0 0 (by rw [hs]; decide)] at h; simp at h
     · have h0 := World.ownsMap_made (H := Unit) W Tryz.prog 132 fnElem
       rw [hsz] at h0
       exact h0.mono (Nat.zero_le _)
     · constructor
       · intro h; cases h
       · rintro ⟨k, hk, h, _⟩
         rw [getD_put 0 k.1 (by rw [hs]; decide), hnone k hk] at h
         simp at h
         exact absurd h (opKeys_small k hk).2.2.2
     · rw [getD_put 0 k.1 (by rw [hs]; decide), hnone k hk] at h
       simp at h
       exact absurd h (opKeys_small k hk).2.2.2
   | 1, _ =>
     cases (show some _ = some o from ho)
     refine wpOp_of rfl rfl ?_
     refine wp_value (v := (opVals w.heap.size).getD 1 undef) (w' := W) (by go_simp; rfl) ?_
     exact ⟨regInv_put (by kernel_rfl) hJ rfl fun _ _ => rfl, hB, hM.other (by decide) (by decide) (by rw [hs]; decide)⟩
   | 2, _ =>
     cases (show some _ = some o from ho)
     refine wpOp_of rfl rfl ?_
     have l0 := hie ⟨0, .data⟩ (by simp) rfl
     have l1 := hie ⟨1, .data⟩ (by simp) rfl
     have s1 : a.tmps.getD 1 undef = .map (some w.heap.size) := hJ.facts 0 _ 1 rfl l0 rfl
     have s2 : a.tmps.getD 2 undef = (opVals w.heap.size).getD 1 undef := hJ.facts 1 _ 2 rfl l1 rfl
     obtain ⟨w', hrun, hM', hg⟩ := hM.ins hs (k := opKeys[0]) (by simp [opKeys]) l0 (by rw [Array.getD_eq_getD_getElem?] at hl ⊢; simpa [hs, opKeys] using hl)
     refine wp_skip (w' := w') (by refine run_ins ?_; rw [Act.eval_tmp, Act.eval_tmp, s1, s2]; exact hrun) ?_
     exact ⟨regInv_put (by kernel_rfl) hJ rfl (fun _ h => by cases h), hB.grown hg hB.size (fun j e => by cases e; exact Nat.le_refl _), hM'⟩
   | 3, _ =>
     cases (show some _ = some o from ho)
     refine wpOp_of rfl rfl ?_
     refine wp_value (v := (opVals w.heap.size).getD 3 undef) (w' := W) (by go_simp; rfl) ?_
     exact ⟨regInv_put (by kernel_rfl) hJ rfl fun _ _ => rfl, hB, hM.other (by decide) (by decide) (by rw [hs]; decide)⟩
   | 4, _ =>
     cases (show some _ = some o from ho)
     refine wpOp_of rfl rfl ?_
     have l0 := hie ⟨0, .data⟩ (by simp) rfl
     have l1 := hie ⟨3, .data⟩ (by simp) rfl
     have s1 : a.tmps.getD 1 undef = .map (some w.heap.size) := hJ.facts 0 _ 1 rfl l0 rfl
     have s2 : a.tmps.getD 3 undef = (opVals w.heap.size).getD 3 undef := hJ.facts 3 _ 3 rfl l1 rfl
     obtain ⟨w', hrun, hM', hg⟩ := hM.ins hs (k := opKeys[1]) (by simp [opKeys]) l0 (by rw [Array.getD_eq_getD_getElem?] at hl ⊢; simpa [hs, opKeys] using hl)
     refine wp_skip (w' := w') (by refine run_ins ?_; rw [Act.eval_tmp, Act.eval_tmp, s1, s2]; exact hrun) ?_
     exact ⟨regInv_put (by kernel_rfl) hJ rfl (fun _ h => by cases h), hB.grown hg hB.size (fun j e => by cases e; exact Nat.le_refl _), hM'⟩
   | 5, _ =>
     cases (show some _ = some o from ho)
     refine wpOp_of rfl rfl ?_
     refine wp_value (v := (opVals w.heap.size).getD 5 undef) (w' := W) (by go_simp; rfl) ?_
     exact ⟨regInv_put (by kernel_rfl) hJ rfl fun _ _ => rfl, hB, hM.other (by decide) (by decide) (by rw [hs]; decide)⟩
   | 6, _ =>
     cases (show some _ = some o from ho)
     refine wpOp_of rfl rfl ?_
     have l0 := hie ⟨0, .data⟩ (by simp) rfl
     have l1 := hie ⟨5, .data⟩ (by simp) rfl
     have s1 : a.tmps.getD 1 undef = .map (some w.heap.size) := hJ.facts 0 _ 1 rfl l0 rfl
     have s2 : a.tmps.getD 4 undef = (opVals w.heap.size).getD 5 undef := hJ.facts 5 _ 4 rfl l1 rfl
     obtain ⟨w', hrun, hM', hg⟩ := hM.ins hs (k := opKeys[2]) (by simp [opKeys]) l0 (by rw [Array.getD_eq_getD_getElem?] at hl ⊢; simpa [hs, opKeys] using hl)
     refine wp_skip (w' := w') (by refine run_ins ?_; rw [Act.eval_tmp, Act.eval_tmp, s1, s2]; exact hrun) ?_
     exact ⟨regInv_put (by kernel_rfl) hJ rfl (fun _ h => by cases h), hB.grown hg hB.size (fun j e => by cases e; exact Nat.le_refl _), hM'⟩
   | 7, _ =>
     cases (show some _ = some o from ho)
     refine wpOp_of rfl rfl ?_
     refine wp_value (v := (opVals w.heap.size).getD 7 undef) (w' := W) (by go_simp; rfl) ?_
     exact ⟨regInv_put (by kernel_rfl) hJ rfl fun _ _ => rfl, hB, hM.other (by decide) (by decide) (by rw [hs]; decide)⟩
   | 8, _ =>
     cases (show some _ = some o from ho)
     refine wpOp_of rfl rfl ?_
     have l0 := hie ⟨0, .data⟩ (by simp) rfl
     have l1 := hie ⟨7, .data⟩ (by simp) rfl
     have s1 : a.tmps.getD 1 undef = .map (some w.heap.size) := hJ.facts 0 _ 1 rfl l0 rfl
     have s2 : a.tmps.getD 5 undef = (opVals w.heap.size).getD 7 undef := hJ.facts 7 _ 5 rfl l1 rfl
     obtain ⟨w', hrun, hM', hg⟩ := hM.ins hs (k := opKeys[3]) (by simp [opKeys]) l0 (by rw [Array.getD_eq_getD_getElem?] at hl ⊢; simpa [hs, opKeys] using hl)
     refine wp_skip (w' := w') (by refine run_ins ?_; rw [Act.eval_tmp, Act.eval_tmp, s1, s2]; exact hrun) ?_
     exact ⟨regInv_put (by kernel_rfl) hJ rfl (fun _ h => by cases h), hB.grown hg hB.size (fun j e => by cases e; exact Nat.le_refl _), hM'⟩
   | 9, _ =>
     cases (show some _ = some o from ho)
     refine wpOp_of rfl rfl ?_
     refine wp_value (v := (opVals w.heap.size).getD 9 undef) (w' := W) (by go_simp; rfl) ?_
     exact ⟨regInv_put (by kernel_rfl) hJ rfl fun _ _ => rfl, hB, hM.other (by decide) (by decide) (by rw [hs]; decide)⟩
   | 10, _ =>
     cases (show some _ = some o from ho)
     refine wpOp_of rfl rfl ?_
     have l0 := hie ⟨0, .data⟩ (by simp) rfl
     have l1 := hie ⟨9, .data⟩ (by simp) rfl
     have s1 : a.tmps.getD 1 undef = .map (some w.heap.size) := hJ.facts 0 _ 1 rfl l0 rfl
     have s2 : a.tmps.getD 6 undef = (opVals w.heap.size).getD 9 undef := hJ.facts 9 _ 6 rfl l1 rfl
     obtain ⟨w', hrun, hM', hg⟩ := hM.ins hs (k := opKeys[4]) (by simp [opKeys]) l0 (by rw [Array.getD_eq_getD_getElem?] at hl ⊢; simpa [hs, opKeys] using hl)
     refine wp_skip (w' := w') (by refine run_ins ?_; rw [Act.eval_tmp, Act.eval_tmp, s1, s2]; exact hrun) ?_
     exact ⟨regInv_put (by kernel_rfl) hJ rfl (fun _ h => by cases h), hB.grown hg hB.size (fun j e => by cases e; exact Nat.le_refl _), hM'⟩
   | 11, _ =>
     cases (show some _ = some o from ho)
     refine wpOp_of rfl rfl ?_
     refine wp_value (v := (opVals w.heap.size).getD 11 undef) (w' := W) (by go_simp; rfl) ?_
     exact ⟨regInv_put (by kernel_rfl) hJ rfl fun _ _ => rfl, hB, hM.other (by decide) (by decide) (by rw [hs]; decide)⟩
   | 12, _ =>
     cases (show some _ = some o from ho)
     refine wpOp_of rfl rfl ?_
     have l0 := hie ⟨0, .data⟩ (by simp) rfl
     have l1 := hie ⟨11, .data⟩ (by simp) rfl
     have s1 : a.tmps.getD 1 undef = .map (some w.heap.size) := hJ.facts 0 _ 1 rfl l0 rfl
     have s2 : a.tmps.getD 7 undef = (opVals w.heap.size).getD 11 undef := hJ.facts 11 _ 7 rfl l1 rfl
     obtain ⟨w', hrun, hM', hg⟩ := hM.ins hs (k := opKeys[5]) (by simp [opKeys]) l0 (by rw [Array.getD_eq_getD_getElem?] at hl ⊢; simpa [hs, opKeys] using hl)
     refine wp_skip (w' := w') (by refine run_ins ?_; rw [Act.eval_tmp, Act.eval_tmp, s1, s2]; exact hrun) ?_
     exact ⟨regInv_put (by kernel_rfl) hJ rfl (fun _ h => by cases h), hB.grown hg hB.size (fun j e => by cases e; exact Nat.le_refl _), hM'⟩
   | 13, _ =>
     cases (show some _ = some o from ho)
     refine wpOp_of rfl rfl ?_
     have s1 : a.tmps.getD 1 undef = .map (some w.heap.size) := hJ.facts 0 _ 1 rfl (hie ⟨0, .data⟩ (by simp) rfl) rfl
     refine wp_value (v := .map (some w.heap.size)) (w' := W) (by rw [← s1, ← Act.eval_tmp]; rfl) ?_
     exact ⟨regInv_put (by kernel_rfl) hJ rfl fun _ _ => rfl, hB, hM.other (by decide) (by decide) (by rw [hs]; decide)⟩
   | 14, _ =>
     cases (show some _ = some o from ho)
     refine wpOp_of rfl rfl ?_
     have s1 : a.tmps.getD 8 undef = .map (some w.heap.size) := hJ.facts 13 _ 8 rfl (hie ⟨13, .data⟩ (by simp) rfl) rfl
     refine wp_value (v := .map (some w.heap.size)) (w' := W) (by rw [← s1, ← Act.eval_tmp]; rfl) ?_
     exact ⟨regInv_put (by kernel_rfl) hJ rfl fun _ _ => rfl, hB, hM.other (by decide) (by decide) (by rw [hs]; decide)⟩
 case fin =>
   rintro a W ⟨hJ, hB, hM⟩
   obtain ⟨D, ho, hm, hh, ha⟩ := hM.2 (by rfl)
   have hl : ∀ k ∈ opKeys, (Array.replicate 15 true).getD k.1 false = true := by
     intro k hk
     simp only [opKeys, List.mem_cons, List.not_mem_nil, or_false] at hk; rcases hk with rfl | rfl | rfl | rfl | rfl | rfl <;> rfl
   have hO : OpsMap W w.heap.size := ⟨D, ho.mono (cntL_le _), hm, fun kl => (hh kl).trans ⟨fun ⟨k, h1, _, h3⟩ => ⟨k, h1, h3⟩, fun ⟨k, h1, h3⟩ => ⟨k, h1, hl k h1, h3⟩⟩, fun k hk => ha k hk (hl k hk)⟩
   have s0 : a.tmps.getD 0 undef = .map (some w.heap.size) := hJ.at_end 14 0 (by kernel_rfl)
   have hd := hJ.defers
   have ht := hJ.tmps
   obtain ⟨tm, df⟩ := a
   simp only at s0 hd ht
   subst hd
   clear hJ hM ho hh ha hl hm
   have h9 := all_slots tm 9 ht
   simp only [List.range_eq_range', List.range'_succ, List.range'_zero, List.map_cons, List.map_nil, s0] at h9
   rw [h9]
   go_wp2_with fail
   go_ret
   exact ⟨rfl, hO, hB⟩
end Go.Proofs.YtlmdhlckgbgfhaaGreatDoor
namespace Go.Proofs.YtlmdhlckgbgfhaaGreatDoor
open Go.RowKit Go.Maps

theorem toList_mk (l : List UInt8) : (ByteArray.mk l.toArray).toList = l := by rw [ByteArray.toList_eq]
theorem mk_toList (s : ByteArray) : s = ⟨s.toList.toArray⟩ := by
 rw [ByteArray.toList_eq]
theorem arOf_some {s : ByteArray} {n : Nat} {o : Ar} (h : arOf s.toList n = some o) : ∃ k ∈ opKeys, k.2.2.2 = o ∧ s = ⟨k.2.1.toArray⟩ ∧ n = k.2.2.1 := by
 unfold arOf at h
 by_cases g0 : s.toList = [45] ∧ n = 1
 · rw [if_pos g0] at h; cases h
   exact ⟨(2, [45], 1, .neg), by simp [opKeys], rfl, (mk_toList s).trans (by rw [g0.1]), g0.2⟩
 rw [if_neg g0] at h
 by_cases g1 : s.toList = [43] ∧ n = 2
 · rw [if_pos g1] at h; cases h
   exact ⟨(4, [43], 2, .add), by simp [opKeys], rfl, (mk_toList s).trans (by rw [g1.1]), g1.2⟩
 rw [if_neg g1] at h
 by_cases g2 : s.toList = [45] ∧ n = 2
 · rw [if_pos g2] at h; cases h
   exact ⟨(6, [45], 2, .sub), by simp [opKeys], rfl, (mk_toList s).trans (by rw [g2.1]), g2.2⟩
 rw [if_neg g2] at h
 by_cases g3 : s.toList = [42] ∧ n = 2
 · rw [if_pos g3] at h; cases h
   exact ⟨(8, [42], 2, .mul), by simp [opKeys], rfl, (mk_toList s).trans (by rw [g3.1]), g3.2⟩
 rw [if_neg g3] at h
 by_cases g4 : s.toList = [47] ∧ n = 2
 · rw [if_pos g4] at h; cases h
   exact ⟨(10, [47], 2, .quo), by simp [opKeys], rfl, (mk_toList s).trans (by rw [g4.1]), g4.2⟩
 rw [if_neg g4] at h
 by_cases g5 : s.toList = [92] ∧ n = 2
 · rw [if_pos g5] at h; cases h
   exact ⟨(12, [92], 2, .rem), by simp [opKeys], rfl, (mk_toList s).trans (by rw [g5.1]), g5.2⟩
 rw [if_neg g5] at h
 cases h
theorem arOf_none {s : ByteArray} {n : Nat} (h : arOf s.toList n = none) : ∀ k ∈ opKeys, ¬ (s = ⟨k.2.1.toArray⟩ ∧ n = k.2.2.1) := by
 rintro k hk ⟨rfl, rfl⟩
 rw [toList_mk] at h
 simp only [opKeys, List.mem_cons, List.not_mem_nil, or_false] at hk
 rcases hk with rfl | rfl | rfl | rfl | rfl | rfl <;> cases h
theorem OpsMap.some {D : DataW Unit} (hh : ∀ kl, Maps.has D kl = true ↔ ∃ k ∈ opKeys, kl = kL k) (ha : ∀ k ∈ opKeys, ∀ z, D.atKey (kL k) z = .lit (.int .i64 (fnAr k.2.2.2 : Int))) {s : ByteArray} {n : Nat} {o : Ar} (h : arOf s.toList n = some o) :
   Maps.has D (keyS s n) = true ∧ ∀ z, D.atKey (keyS s n) z = .lit (.int .i64 (fnAr o : Int)) := by
 obtain ⟨k, hk, rfl, rfl, rfl⟩ := arOf_some h
 exact ⟨(hh _).2 ⟨k, hk, rfl⟩, ha k hk⟩
theorem OpsMap.none {D : DataW Unit} (hh : ∀ kl, Maps.has D kl = true ↔ ∃ k ∈ opKeys, kl = kL k) {s : ByteArray} (hs : s.size ≤ maxLen) {n : Nat} (hn : n ≤ maxLen) (h : arOf s.toList n = none) :
   Maps.has D (keyS s n) = false := by
 cases hb : Maps.has D (keyS s n) with
 | false => rfl
 | true =>
   obtain ⟨k, hk, e⟩ := (hh _).1 hb
   have hI : I64 (n : Int) := by
     have h' : -9223372036854775808 ≤ (n : Int) ∧ (n : Int) ≤ 9223372036854775807 := by unfold maxLen at hn; omega
     unfold I64 Lit.wf
     simp only [Bool.and_eq_true, decide_eq_true_eq]
     exact h'
   have h1 := sign_keyed.inj (keyS_of s n hs hI) (e ▸ kL_of hk)
   simp at h1
   exact absurd ⟨h1.1, by omega⟩ (arOf_none h k hk)
theorem i64_len {n : Nat} (hn : n ≤ maxLen) : I64 (n : Int) := by
 have h' : -9223372036854775808 ≤ (n : Int) ∧ (n : Int) ≤ 9223372036854775807 := by unfold maxLen at hn; omega
 unfold I64 Lit.wf
 simp only [Bool.and_eq_true, decide_eq_true_eq]
 exact h'

end Go.Proofs.YtlmdhlckgbgfhaaGreatDoor
namespace Go.Proofs.YtlmdhlckgbgfhaaGreatDoor
open Go.RowKit Go.Maps

theorem bool_inv {v : Value} {z : DataW Unit × List MemPlace} (h : plainElem Tryz.prog 4 v = some z) : ∃ b, v = .bool b ∧ z = (.lit (.bool b), []) := by
 have hu : Tryz.prog.underlying 4 = some .bool := Tryz.underlying4
 unfold plainElem at h
 rw [hu] at h
 split at h
 · rename_i x; cases h; exact ⟨_, rfl, rfl⟩
 · rename_i e; cases e
 · rename_i e; cases e
 · cases h

def SetI (w : World) (M : Nat) (ss : List Int) : Prop := ∃ D : DataW Unit, w.ownsMap Tryz.prog 3 (plainElem Tryz.prog 4) M ss.length D ∧ (∀ x : Int, Maps.has D (.int .i64 x) = true ↔ x ∈ ss) ∧ Maps.size D = ss.length ∧
 (∀ x ∈ ss, ∀ z, D.atKey (.int .i64 x) z = .lit (.bool true)) ∧ ss.Nodup
theorem SetI.made (w : World) : SetI (w.alloc (.map #[] 0)) w.heap.size [] :=
 ⟨.map [], World.ownsMap_made w _ _ _, fun x => by simp [Maps.has], rfl, fun x h => (by cases h), List.nodup_nil⟩
theorem SetI.kept {w w' : World} {M : Nat} {ss : List Int} {row : Option Nat} (h : SetI w M ss) (hg : w.grownBy w' row) (hne : some M ≠ row) : SetI w' M ss := by
 obtain ⟨D, h1, h2⟩ := h
 exact ⟨D, h1.kept hg hne, h2⟩
theorem SetI.lt {w : World} {M : Nat} {ss : List Int} (h : SetI w M ss) : M < w.heap.size := by
 obtain ⟨D, h1, _⟩ := h
 exact h1.lt
theorem SetI.look {w : World} {M : Nat} {ss : List Int} (h : SetI w M ss) (x : Int) (hx : I64 x) : (Instr.lookup 133 (.map (some M)) (.int .i64 x) false).run Tryz.prog w = .ok (.bool (decide (x ∈ ss))) w := by
 obtain ⟨D, h1, h2, h3, h4, h5⟩ := h
 have hz : (zeroValue 4).run Tryz.prog w = .ok (.bool false) w := by kernel_rfl
 obtain ⟨v, ps, hrun, hv⟩ := h1.lookup (Maps.int_keyed Tryz.underlying3) Tryz.underlying133 hz (plainElem_bool Tryz.underlying4 false) (Maps.keyOf_int_mk Tryz.underlying3 hx)
 obtain ⟨b, rfl, hb⟩ := bool_inv hv
 rw [hrun]
 by_cases hm : x ∈ ss
 · rw [h4 x hm] at hb
   have : b = true := (by simpa using hb : b = true ∧ ps = []).1
   rw [decide_eq_true hm, this]
 · have hf : Maps.has D (.int .i64 x) = false := by
     cases hh : Maps.has D (.int .i64 x) with
     | false => rfl
     | true => exact absurd ((h2 x).1 hh) hm
   rw [Maps.atKey_of_not_has hf] at hb
   have : b = false := (by simpa using hb : b = false ∧ ps = []).1
   rw [decide_eq_false hm, this]
theorem SetI.len {w : World} {M : Nat} {ss : List Int} (h : SetI w M ss) (ty : TypeId) : (Builtin.len_ #[133] ty #[.map (some M)]).run Tryz.prog w = .ok (.int .i64 ss.length) w := by
 obtain ⟨D, h1, h2, h3, h4, h5⟩ := h
 rw [← h3]
 exact h1.len Tryz.underlying133 ty
theorem SetI.put {w : World} {M : Nat} {ss : List Int} (h : SetI w M ss) (x : Int) (hx : I64 x) (hn : x ∉ ss) (hl : ss.length ≤ 1000) :
   ∃ w', (Instr.mapUpdate 133 (.map (some M)) (.int .i64 x) (.bool true)).run Tryz.prog w = .ok () w' ∧ SetI w' M (ss ++ [x]) ∧ w.grownBy w' (some M) := by
 obtain ⟨D, h1, h2, h3, h4, h5⟩ := h
 have hk := Maps.keyOf_int_mk (P := Tryz.prog) Tryz.underlying3 hx
 obtain ⟨w', hrun, ho, hg⟩ := h1.update (Maps.int_keyed Tryz.underlying3) Tryz.underlying133 (by unfold maxLen; omega) hk (plainElem_bool Tryz.underlying4 true)
 have ht := h1.tidy (Maps.int_keyed Tryz.underlying3)
 have hK := (Maps.int_keyed Tryz.underlying3).key hk
 have hf : Maps.has D (.int .i64 x) = false := by
   cases hh : Maps.has D (.int .i64 x) with
   | false => rfl
   | true => exact absurd ((h2 x).1 hh) hn
 refine ⟨w', hrun, ⟨_, by simpa using ho, fun y => ?_, ?_, fun y hy z => ?_, ?_⟩, hg⟩
 · by_cases hy : y = x
   · subst hy; exact ⟨fun _ => by simp, fun _ => Maps.has_put_same ht.isMap hK _⟩
   · rw [Maps.has_put_other (fun e => hy (by simpa using e)), h2]
     simp [hy]
 · rw [Maps.size_put ht, hf, h3]; simp
 · by_cases hyx : y = x
   · subst hyx; exact Maps.atKey_put_same ht.isMap hK _ z
   · rw [Maps.atKey_put_other (fun e => hyx (by simpa using e))]
     exact h4 y (by simpa [hyx] using hy) z
 · rw [List.nodup_append]
   exact ⟨h5, by simp, fun a ha b hb => by simp at hb; subst hb; exact fun e => hn (e ▸ ha)⟩
theorem SetI.keys {w : World} {M : Nat} {ss : List Int} (h : SetI w M ss) : ∃ D : DataW Unit, w.ownsMap Tryz.prog 3 (plainElem Tryz.prog 4) M ss.length D ∧ Maps.size D = ss.length ∧ ∀ l : List Int, l.Perm (intKeys D) → l.mergeSort (fun x y => decide (x ≤ y)) = sortI ss ∧ l.length = ss.length := by
 obtain ⟨D, h1, h2, h3, h4, h5⟩ := h
 refine ⟨D, h1, h3, fun l hl => ?_⟩
 have hp : ss.Perm (intKeys D) := CollectedI.perm (left := fun _ => false) ⟨h5, fun x => by rw [h2 x]; simp⟩ h1 (Maps.int_keyed Tryz.underlying3) Tryz.underlying3 (fun _ => rfl)
 have hq := hl.trans hp.symm
 exact ⟨mergeSort_of_perm_i hq, hq.length_eq⟩

def resOf (o : Ar) (pre : List (List Int)) : List Int := (pre.filterMap (applyI o)).eraseDups
theorem resOf_all (o : Ar) (ls : List (List Int)) : resOf o (combos ls) = resultsI o ls := rfl
theorem resOf_none {o : Ar} {pre : List (List Int)} {x : List Int} (h : applyI o x = none) : resOf o (pre ++ [x]) = resOf o pre := by
 unfold resOf; rw [List.filterMap_append]; simp [h]
theorem resOf_old {o : Ar} {pre : List (List Int)} {x : List Int} {n : Int} (h : applyI o x = some n) (hm : n ∈ resOf o pre) : resOf o (pre ++ [x]) = resOf o pre := by
 unfold resOf at *
 rw [List.filterMap_append, List.eraseDups_append]
 simp only [List.filterMap_cons, h, List.filterMap_nil]
 rw [List.mem_eraseDups] at hm
 simp only [List.removeAll, List.filter_cons, List.filter_nil, List.elem_eq_mem, hm, decide_true, Bool.not_true, Bool.false_eq_true, if_false, List.eraseDups_nil, List.append_nil]
theorem resOf_new {o : Ar} {pre : List (List Int)} {x : List Int} {n : Int} (h : applyI o x = some n) (hm : n ∉ resOf o pre) : resOf o (pre ++ [x]) = resOf o pre ++ [n] := by
 unfold resOf at *
 rw [List.filterMap_append, List.eraseDups_append]
 simp only [List.filterMap_cons, h, List.filterMap_nil]
 rw [List.mem_eraseDups] at hm
 congr 1
 simp only [List.removeAll, List.filter_cons, List.filter_nil, List.elem_eq_mem, hm, decide_false, Bool.not_false, if_true]
 simp [List.eraseDups_cons]
theorem nodup_sub_length : ∀ {l m : List Int}, l.Nodup → (∀ x ∈ l, x ∈ m) → l.length ≤ m.length
 | [], _, _, _ => Nat.zero_le _
 | a :: l, m, hn, hs => by
   rw [List.nodup_cons] at hn
   have ha := hs a (by simp)
   have := nodup_sub_length (l := l) (m := m.erase a) hn.2 fun x hx => (List.mem_erase_of_ne (fun e => hn.1 (by rw [← e]; exact hx))).2 (hs x (by simp [hx]))
   rw [List.length_erase_of_mem ha] at this
   have : 0 < m.length := List.length_pos_of_mem ha
   simp; omega
theorem resOf_prefix {o : Ar} {pre all : List (List Int)} (h : pre <+: all) : (resOf o pre).length ≤ (resOf o all).length := by
 refine nodup_sub_length (nodup_eraseDups _) fun x hx => ?_
 unfold resOf at *
 rw [List.mem_eraseDups] at *
 obtain ⟨c, hc, hx⟩ := List.mem_filterMap.1 hx
 exact List.mem_filterMap.2 ⟨c, h.subset hc, hx⟩

theorem ops_get {w : World} {M : Nat} (h : OpsMap w M) {s : ByteArray} (hs : s.size ≤ maxLen) {k : Nat} (hk : k ≤ maxLen) {o : Ar} (ho : arOf s.toList k = some o) :
   (Instr.lookup 129 (.map (some M)) (.agg #[.string s, .int .i64 k]) false).run Tryz.prog w = .ok (.func (.func (fnAr o)) #[] #[]) w := by
 obtain ⟨D, hown, _, hh, ha⟩ := h
 have hz : (zeroValue 128).run Tryz.prog w = .ok .nilFunc w := by kernel_rfl
 obtain ⟨v, ps, hrun, hv⟩ := hown.lookup sign_keyed Tryz.underlying129 hz (zd := .nil) (zp := []) rfl (keyS_of s k hs (i64_len hk))
 rw [(OpsMap.some hh ha ho).2] at hv
 rw [hrun, fnElem_inv hv]
theorem ops_grow {w w' : World} {M : Nat} (h : OpsMap w M) (hb : Below w.heap.size w w') : OpsMap w' M := by
 obtain ⟨D, h1, h2⟩ := h
 exact ⟨D, h1.kept (row := none) ⟨hb.os, hb.tape, hb.output, hb.size, fun k hk _ => hb.block k hk⟩ (by simp), h2⟩
end Go.Proofs.YtlmdhlckgbgfhaaGreatDoor
