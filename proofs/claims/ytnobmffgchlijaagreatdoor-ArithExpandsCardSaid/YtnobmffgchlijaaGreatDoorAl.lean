/- Package arith: expandFunction. -/
import Derived.Test.YtnobmffgchlijaaGreatDoorAk
import Derived.Test.YtnobmffgchlijaaGreatDoorRa
import Derived.Maps.OwnIn
namespace Go.Proofs.YtnobmffgchlijaaGreatDoor
open Go.RowKit Go.Shelf
attribute [local go_sem] Oper.semAt_some

theorem info_terms : (Tryz.prog.info? 30).map (fun i => (i.zero, i.size, i.bytes)) = some (some (.slice none 0 0), 1, 24) := by kernel_rfl

/-- The loop that expands the arguments. -/
def FnI (N : Nat) (w : World) (cs : Array Value) (args : List Tm) (v i : Value) (wr : World) : Prop :=
  ∃ (j : Nat) (ls : List (List Tm)), j ≤ args.length ∧ i = .int .i64 j ∧ Tm.expL (args.take j) = some ls ∧ ls.length = j ∧ ListsT N wr v ls ∧ Below N w wr ∧ wr.heap[N]? = some (.cells cs 32 (0, 0)) ∧ N + 1 ≤ wr.heap.size

theorem own_not {W : World} {base g : Nat} {e t : TypeId} {size k : Nat} {v : Value} {xs : List Value} {cs : Array Value} (h : W.ownsRow base e size v k xs) (hg : W.heap[g]? = some (.cells cs t (0, 0))) (hne : t ≠ e) : v.ownBlock ≠ some g := by
  intro e'
  rcases h.2 with ⟨rfl, _⟩ | ⟨g', cap, cur, rfl, _, hg', _⟩
  · cases e'
  · obtain rfl : g' = g := by simpa [Value.ownBlock] using e'
    rw [hg] at hg'
    cases hg'
    exact hne rfl
theorem Vals.slice {ex : Option Nat} {base : Nat} {w : World} {v : Value} {ts : List Tm} (h : Vals ex base w v ts) : ∃ a n c, v = .slice a n c := by
  obtain ⟨xs, ⟨_, ⟨rfl, _⟩ | ⟨g, cap, cur, rfl, _⟩⟩, _⟩ := h
  · exact ⟨_, _, _, rfl⟩
  · exact ⟨_, _, _, rfl⟩
/-! Lists of terms, held. -/
theorem tes_of {ok : Nat → Prop} {w : World} {b : Nat} : ∀ {ts : List Tm} {off : Nat}, IsTmsIn ok w b off ts → ∃ l : List (TEIn ok w), l.map (fun x => x.1.t) = ts ∧
    ∀ j (hj : j < l.length), w.cell? ⟨b, off + j * 4, none⟩ = some l[j].1.c0 ∧ w.cell? ⟨b, off + j * 4 + 1, none⟩ = some l[j].1.c1 ∧ w.cell? ⟨b, off + j * 4 + 2, none⟩ = some l[j].1.c2 ∧ w.cell? ⟨b, off + j * 4 + 3, none⟩ = some l[j].1.c3
  | [], _, _ => ⟨[], rfl, fun j hj => by simp at hj⟩
  | t :: ts, off, h => by
    simp only [IsTmsIn] at h
    obtain ⟨c0, c1, c2, c3, h0, h1, h2, h3, ht, hr⟩ := h
    obtain ⟨l, hl, hc⟩ := tes_of hr
    refine ⟨⟨⟨c0, c1, c2, c3, t⟩, ht⟩ :: l, by simp [hl], fun j hj => ?_⟩
    cases j with
    | zero => simpa using ⟨h0, h1, h2, h3⟩
    | succ j =>
      have := hc j (by simpa using hj)
      rw [show off + (j + 1) * 4 = off + 4 + j * 4 from by omega]
      simpa using this
/-- The rows of a slice of slices, from its values. -/
theorem lists_of {ok : Nat → Prop} {w : World} : ∀ (ls : List (List Tm)) (vs : List Value), (∀ i (h : i < ls.length), ∃ u, vs[i]? = some u ∧ RowIn ok w u ls[i]) → ∃ Ls : List (List (TEIn ok w)), Ls.map (List.map fun x => x.1.t) = ls ∧
    ∀ i (h : i < Ls.length), ∃ (a : Option Addr) (cap : Nat), vs[i]? = some (.slice a Ls[i].length cap) ∧ Ls[i].length ≤ maxLen ∧
      (Ls[i] ≠ [] → ∃ b off, a = some ⟨b, off, none⟩ ∧ ok b ∧ ∀ j (hj : j < Ls[i].length), w.cell? ⟨b, off + j * 4, none⟩ = some Ls[i][j].1.c0 ∧ w.cell? ⟨b, off + j * 4 + 1, none⟩ = some Ls[i][j].1.c1 ∧ w.cell? ⟨b, off + j * 4 + 2, none⟩ = some Ls[i][j].1.c2 ∧ w.cell? ⟨b, off + j * 4 + 3, none⟩ = some Ls[i][j].1.c3)
  | [], _, _ => ⟨[], rfl, fun i h => by simp at h⟩
  | ts :: ls, vs, h => by
    obtain ⟨u, hu, a, cap, rfl, hl, hr⟩ := h 0 (by simp)
    obtain ⟨Ls, hm, hc⟩ := lists_of ls vs.tail (fun i hi => by
      obtain ⟨u, hu, hR⟩ := h (i + 1) (by simpa using hi)
      exact ⟨u, by simpa using hu, by simpa using hR⟩)
    simp only [List.getElem_cons_zero] at hu hl hr
    have hex : ∃ L : List (TEIn ok w), L.map (fun x => x.1.t) = ts ∧ (L ≠ [] → ∃ b off, a = some ⟨b, off, none⟩ ∧ ok b ∧ ∀ j (hj : j < L.length), w.cell? ⟨b, off + j * 4, none⟩ = some L[j].1.c0 ∧ w.cell? ⟨b, off + j * 4 + 1, none⟩ = some L[j].1.c1 ∧ w.cell? ⟨b, off + j * 4 + 2, none⟩ = some L[j].1.c2 ∧ w.cell? ⟨b, off + j * 4 + 3, none⟩ = some L[j].1.c3) := by
      by_cases hne : ts = []
      · subst hne; exact ⟨[], rfl, fun h => absurd rfl h⟩
      · obtain ⟨b, off, ha, hb, hi⟩ := hr hne
        obtain ⟨L, hL, hc⟩ := tes_of hi
        exact ⟨L, hL, fun _ => ⟨b, off, ha, hb, hc⟩⟩
    obtain ⟨L, hL, hLc⟩ := hex
    have hLl : L.length = ts.length := by rw [← hL]; simp
    refine ⟨L :: Ls, by simp [hL, hm], fun i hi => ?_⟩
    cases i with
    | zero => exact ⟨a, cap, by simpa [hLl] using hu, by simpa [hLl] using hl, hLc⟩
    | succ i =>
      obtain ⟨a', cap', h1, h2, h3⟩ := hc i (by simpa using hi)
      exact ⟨a', cap', by simpa using h1, h2, h3⟩

/-! What terms lead to are blocks of cells. -/
def IsC (w : World) (b : Nat) : Prop := ∃ cs t p, w.heap[b]? = some (.cells cs t p) ∧ 2 ≤ cs.size
theorem isC_of {w : World} {b o : Nat} {u : Value} (h : w.cell? ⟨b, o + 1, none⟩ = some u) : IsC w b := by
  unfold World.cell? at h
  cases hb : w.heap[b]? with
  | none => simp [hb] at h
  | some x =>
    cases x with
    | cells cs t p =>
      refine ⟨cs, t, p, hb, ?_⟩
      simp only [hb] at h
      by_cases hs : 2 ≤ cs.size
      · exact hs
      · rw [Array.getElem?_eq_none (by omega)] at h; cases h
    | _ => simp [hb] at h
mutual
theorem IsTmIn.isC {ok : Nat → Prop} {w : World} {c0 c1 c2 c3 : Value} : ∀ {t : Tm}, IsTmIn ok w c0 c1 c2 c3 t → IsTmIn (fun b => ok b ∧ IsC w b) w c0 c1 c2 c3 t
  | .mk _ _ _ args, ht => by
    simp only [IsTmIn] at ht ⊢
    obtain ⟨h0, hk, h1, hn, h2, hs, a, cap, h3, hl, hr⟩ := ht
    refine ⟨h0, hk, h1, hn, h2, hs, a, cap, h3, hl, fun hne => ?_⟩
    obtain ⟨b, off, ha, hb, hi⟩ := hr hne
    refine ⟨b, off, ha, ⟨hb, ?_⟩, IsTmsIn.isC hi⟩
    cases args with
    | nil => exact absurd rfl hne
    | cons u us =>
      simp only [IsTmsIn] at hi
      obtain ⟨_, c1, _, _, _, h1, _⟩ := hi
      exact isC_of h1
theorem IsTmsIn.isC {ok : Nat → Prop} {w : World} {b off : Nat} : ∀ {ts : List Tm}, IsTmsIn ok w b off ts → IsTmsIn (fun b => ok b ∧ IsC w b) w b off ts
  | [], _ => by simp only [IsTmsIn]
  | t :: ts, ht => by
    simp only [IsTmsIn] at ht ⊢
    obtain ⟨c0, c1, c2, c3, h0, h1, h2, h3, hi, hr⟩ := ht
    exact ⟨c0, c1, c2, c3, h0, h1, h2, h3, IsTmIn.isC hi, IsTmsIn.isC hr⟩
end
theorem HoldL.isC {ok : Nat → Prop} {w : World} : ∀ {ts : List Tm} {xs : List Value}, HoldL ok w xs ts → HoldL (fun b => ok b ∧ IsC w b) w xs ts
  | [], _, hx => hx
  | _ :: _, _, ⟨c0, c1, c2, c3, r, e, ht, hr⟩ => ⟨c0, c1, c2, c3, r, e, ht.isC, HoldL.isC hr⟩
/-- What changes no cells keeps a row of terms. -/
theorem Vals.own {ex : Option Nat} {base : Nat} {A B : World} {row : Option Nat} {v : Value} {ts : List Tm} (h : Vals ex base A v ts) (hg : A.grownBy B row) (hr : ∀ r, row = some r → ∃ o : Obj, A.heap[r]? = some o ∧ o.isCells = false) : Vals ex base B v ts := by
  obtain ⟨xs, ho, hh, hx⟩ := h
  refine ⟨xs, ho.kept hg ?_, hh.isC.keep fun b hf => ⟨⟨hf.1.1, Nat.lt_of_lt_of_le hf.1.2.1 hg.size, hf.1.2.2⟩, hg.block b hf.1.2.1 fun e => ?_⟩, hx⟩
  · rcases ho.2 with ⟨rfl, _⟩ | ⟨g, cap, cur, rfl, _, hg', _⟩
    · exact .inl rfl
    · refine .inr fun e => ?_
      obtain ⟨o, h1, h2⟩ := hr g (by rw [← e]; rfl)
      rw [hg'] at h1; cases h1; cases h2
  · obtain ⟨o, h1, h2⟩ := hr b e.symm
    obtain ⟨cs, t, p, h3, _⟩ := hf.2
    rw [h3] at h1; cases h1; cases h2

/-- A function's terms, one a choice. -/
def funT {ok : Nat → Prop} {w0 : World} (s : ByteArray) (x : List (TEIn ok w0)) : Tm := .mk 4 0 s (x.map fun y => y.1.t)
/-- The loop over the choices. -/
def FnL {ok : Nat → Prop} {W0 : World} (N n1 : Nat) (s : ByteArray) (w : World) (o : Option Nat) (pre : List (List (TEIn ok W0))) (W : World) : Prop :=
  (∃ v, Boxed W n1 30 v ∧ Vals o N W v (pre.map (funT s)) ∧ ∀ k, v.ownBlock = some k → n1 < k) ∧ Below N w W ∧ KeepOk ok W0 W ∧ W0.heap.size ≤ W.heap.size ∧ pre.length ≤ 1000
theorem FnL.own {N n1 : Nat} {s : ByteArray} {w W0 : World} {ok : Nat → Prop} (hN : N ≤ w.heap.size) (hN0 : N ≤ W0.heap.size) (hok : ∀ b, ok b → b < W0.heap.size) (o : Option Nat) : OwnFrom W0.heap.size (FnL (ok := ok) (W0 := W0) N n1 s w o) := by
  rintro pre A B row ⟨⟨v, h1, h2, h3⟩, h4, h5, h6, h7⟩ hg hr
  have hr' : ∀ r, row = some r → ∃ o : Obj, A.heap[r]? = some o ∧ o.isCells = false := fun r e => (hr r e).2
  refine ⟨⟨v, boxed_own n1 30 (fun _ : Unit => v) () A B row h1 hg hr', h2.own hg hr', h3⟩, ownFrom_below hN hN0 pre A B row h4 hg hr, fun b hb => (hg.block b (Nat.lt_of_lt_of_le (hok b hb) h6) fun e => ?_).trans (h5 b hb), Nat.le_trans h6 hg.size, h7⟩
  have := (hr b e.symm).1
  have := hok b hb
  omega
theorem FnL.bears {N n1 : Nat} {s : ByteArray} {w W0 : World} {ok : Nat → Prop} (hN0 : N ≤ W0.heap.size) (h10 : n1 < W0.heap.size) (hok : ∀ b, ok b → b < W0.heap.size) (g : Nat) (hg0 : W0.heap.size ≤ g) : BearsO (AbE g) (FnL (ok := ok) (W0 := W0) N n1 s w (some g)) := by
  rintro pre A B ⟨⟨v, h1, h2, h3⟩, h4, h5, h6, h7⟩ hg
  exact ⟨⟨v, h1.kept hg (by simp; omega), h2.other hg, h3⟩, h4.grown hg (by omega) (fun k e => by cases e; omega), h5.grown hg (fun h => by have := hok _ h; omega) (fun b hb => Nat.lt_of_lt_of_le (hok b hb) h6), Nat.le_trans h6 hg.size, h7⟩

theorem ownsRow_lower' {W : World} {b b' : Nat} {e : TypeId} {size n : Nat} {v : Value} {xs : List Value} (h : W.ownsRow b e size v n xs) (hb : b' ≤ b) : W.ownsRow b' e size v n xs := by
  refine ⟨h.1, ?_⟩
  rcases h.2 with h2 | ⟨g, cap, cur, h1, h2, h3⟩
  · exact .inl h2
  · exact .inr ⟨g, cap, cur, h1, Nat.le_trans hb h2, h3⟩
/-- Two blocks alone have changed, and they are cells. -/
structure Two (p q : Nat) (A B : World) : Prop where
  os : B.os = A.os
  tape : B.tape = A.tape
  output : B.output = A.output
  size : A.heap.size ≤ B.heap.size
  block : ∀ b, b < A.heap.size → b ≠ p → b ≠ q → B.heap[b]? = A.heap[b]?
  others : KeepsOthers A B
theorem Two.refl (p q : Nat) (A : World) : Two p q A A := ⟨rfl, rfl, rfl, Nat.le_refl _, fun _ _ _ _ => rfl, KeepsOthers.refl _⟩
theorem Two.cell {p q : Nat} {A B : World} (h : Two p q A B) (b o : Nat) (v : Value) (hb : b = p ∨ b = q) : Two p q A (B.setCell ⟨b, o, none⟩ v) :=
  ⟨h.os, h.tape, h.output, Nat.le_trans h.size (by simp [World.setCell]), fun k hk hp hq => (Below.heap_setCell _ _ _ k (fun e => by rcases hb with rfl | rfl <;> simp_all)).trans (h.block k hk hp hq), h.others.trans (KeepsOthers.setCell _ _ _)⟩

theorem boxed_off {W : World} {B B' o : Nat} {t : TypeId} {v : Value} (h : Boxed W B t v) (hne : B ≠ B') (u : Value) : Boxed (W.setCell ⟨B', o, none⟩ u) B t v :=
  (Below.heap_setCell _ _ _ B hne).trans h
theorem set4 {α : Type} (xs : List α) (k : Nat) (hk : xs.length = k) (a b c d a' b' c' d' : α) : ((((xs ++ [a, b, c, d]).set k a').set (k + 1) b').set (k + 2) c').set (k + 3) d' = xs ++ [a', b', c', d'] := by
  subst hk
  simp
/-- A term is stored at a row's cells. -/
theorem own_set4 {w : World} {base g n cap k : Nat} {e : TypeId} {xs : List Value} {a b c d : Value} (a' b' c' d' : Value) (h : w.ownsRow base e 4 (.slice (some ⟨g, 0, none⟩) n cap) n (xs ++ [a, b, c, d])) (hk : xs.length = k) :
    ((((w.setCell ⟨g, k, none⟩ a').setCell ⟨g, k + 1, none⟩ b').setCell ⟨g, k + 2, none⟩ c').setCell ⟨g, k + 3, none⟩ d').ownsRow base e 4 (.slice (some ⟨g, 0, none⟩) n cap) n (xs ++ [a', b', c', d']) := by
  rw [← set4 xs k hk a b c d a' b' c' d']
  exact ((((h.stored k a').1.stored (k + 1) b').1.stored (k + 2) c').1.stored (k + 3) d').1

/-- A choice's term has been appended. -/
theorem FnL.step {N n1 g gg K : Nat} {s : ByteArray} {w W0 W wx w1 W3 : World} {ok : Nat → Prop} {pre : List (List (TEIn ok W0))} {x : List (TEIn ok W0)} {V V' u : Value} {xs : List Value} (hok : ∀ b, ok b → N ≤ b ∧ b < n1) (hN1 : N ≤ n1) (h10 : n1 < W0.heap.size) (hs : s.size ≤ maxLen) (hx : x.length = K) (hK : 1 ≤ K ∧ K ≤ 8)
    (h1 : Boxed W n1 30 V) (hO : W.ownsRow N 32 4 V pre.length xs) (hH : HoldL (Far (some g) N W V) W xs (pre.map (funT s))) (hE : V.ownBlock ≠ some g) (h3 : ∀ k, V.ownBlock = some k → n1 < k) (h4 : Below N w W) (h5 : KeepOk ok W0 W) (h6 : W0.heap.size ≤ W.heap.size) (hle : pre.length + 1 ≤ 1000)
    (hg : W0.heap.size ≤ g) (hgW : g < W.heap.size) (hb : Below W.heap.size W wx) (hu : wx.ownsRow W.heap.size 32 4 u K (flatE x)) (hgrow : wx.grownBy w1 V.ownBlock) (hgg : V'.ownBlock = some gg) (hat : some gg = V.ownBlock ∨ gg = wx.heap.size) (hT : Two gg n1 w1 W3)
    (hO3 : W3.ownsRow N 32 4 V' (pre.length + 1) (xs ++ [.int .u8 4, .int .i64 0, .string s, u])) (hB3 : Boxed W3 n1 30 V') :
    KeepsFrom W0.heap.size W W3 ∧ KpE ok g W W3 ∧ FnL (ok := ok) (W0 := W0) N n1 s w (some g) (pre ++ [x]) W3 := by
  have z1 := hb.size
  have z2 := hgrow.size
  have z3 := hT.size
  have ggn : n1 < gg := by
    rcases hat with e | e
    · exact h3 gg e.symm
    · omega
  have ggg : gg ≠ g := by
    rintro rfl
    rcases hat with e | e
    · exact hE e.symm
    · omega
  have hVl : ∀ k, V.ownBlock = some k → N ≤ k ∧ k < W.heap.size := fun k e => hO.lt k e
  have old : ∀ b, b < W.heap.size → V.ownBlock ≠ some b → b ≠ n1 → W3.heap[b]? = W.heap[b]? := fun b hb1 hb2 hb3 =>
    (hT.block b (by omega) (fun h => by
      rcases hat with e | e
      · exact hb2 (by rw [h]; exact e.symm)
      · omega) hb3).trans ((hgrow.block b (by omega) (fun e => hb2 e.symm)).trans (hb.block b hb1))
  have new : ∀ b, W.heap.size ≤ b → b < wx.heap.size → gg ≠ b ∧ W3.heap[b]? = wx.heap[b]? := fun b hb1 hb2 => by
    have hgb : gg ≠ b := by
      rcases hat with e | e
      · intro h; have := (hVl gg e.symm).2; omega
      · omega
    exact ⟨hgb, (hT.block b (by omega) (fun h => hgb h.symm) (by omega)).trans (hgrow.block b hb2 (fun e => by have := (hVl b e.symm).2; omega))⟩
  refine ⟨?_, ⟨?_, by omega, ?_⟩, ⟨V', hB3, ?_, fun k e => ?_⟩, ?_, ?_, by omega, by simpa using hle⟩
  · refine (KeepsOthers.trans ?_ (KeepsOthers.trans (KeepsOthers.of_grownBy hgrow ?_) hT.others)).from _
    · exact ⟨z1, fun k o hk _ => (hb.block k (Array.getElem?_eq_some_iff.1 hk).1).trans hk⟩
    · intro j o ej hj
      rcases (own_grown hO hb).2 with ⟨rfl, _⟩ | ⟨g', cap, cur, rfl, _, hg', _⟩
      · cases ej
      · obtain rfl : g' = j := by simpa [Value.ownBlock] using ej
        rw [hg'] at hj; cases hj; rfl
  · exact fun b hb' => old b (by have := (hok b hb').2; omega) (fun e => by have := h3 b e; have := (hok b hb').2; omega) (by have := (hok b hb').2; omega)
  · exact old g hgW hE (by omega)
  · have hHn : HoldL (Far (some g) N W3 V') W3 xs (pre.map (funT s)) := hH.isC.keep fun b hf => by
      have hbn : b ≠ n1 := by
        rintro rfl
        obtain ⟨cs, t, p, e1, e2⟩ := hf.2
        rw [h1] at e1; cases e1; simp at e2
      refine ⟨⟨hf.1.1, by have := hf.1.2.1; omega, ?_, hf.1.2.2.2⟩, old b hf.1.2.1 hf.1.2.2.1 hbn⟩
      rw [hgg]
      rcases hat with e | e
      · rw [e]; exact hf.1.2.2.1
      · intro h; cases h; have := hf.1.2.1; omega
    have hnew : IsTmIn (Far (some g) N W3 V') W3 (.int .u8 4) (.int .i64 0) (.string s) u (funT s x) := by
      have hu' := hu
      rcases hu.2 with ⟨_, h0⟩ | ⟨h, cap, cur, rfl, hh, hcs, hc, hm, _, _⟩
      · omega
      have hhl := (Array.getElem?_eq_some_iff.1 hcs).1
      have hnw := new h hh hhl
      unfold funT
      simp only [IsTmIn]
      refine ⟨trivial, by omega, trivial, by unfold I64; decide, trivial, hs, some ⟨h, 0, none⟩, cap, by simp [hx], by rw [List.length_map, hx]; unfold maxLen; omega, fun _ => ⟨h, 0, rfl, ⟨by omega, by omega, by rw [hgg]; intro e; cases e; exact hnw.1 rfl, by intro e; cases e; omega⟩, ?_⟩⟩
      have hfl : HoldL (Far (some g) N W3 V') W3 (flatE x) (x.map fun y => y.1.t) := (flatE_hold x).keep fun b hb' => by
        have hb2 := hok b hb'
        refine ⟨⟨hb2.1, by omega, by rw [hgg]; intro e; cases e; omega, by intro e; cases e; omega⟩, ?_⟩
        exact (old b (by omega) (fun e => by have := h3 b e; omega) (by omega)).trans (h5 b hb')
      refine HoldL.tms hfl (off := 0) fun j v hv => ?_
      have := hu'.cells (g := h) rfl j v hv
      have hadd : (⟨h, 0, none⟩ : Addr).add j = ⟨h, j, none⟩ := by unfold Addr.add; split <;> simp_all
      rw [hadd] at this
      rw [Nat.zero_add, ← this]
      exact cell_block hnw.2
    refine ⟨xs ++ [.int .u8 4, .int .i64 0, .string s, u], by simpa using hO3, ?_, fun g' e => ?_⟩
    · rw [List.map_append]
      exact hHn.append (HoldL.one hnew)
    · cases e
      rw [hgg]; intro e; cases e; exact ggg rfl
  · rw [hgg] at e; cases e; exact ggn
  · exact ⟨hT.os.trans (hgrow.os.trans (hb.os.trans h4.os)), hT.tape.trans (hgrow.tape.trans (hb.tape.trans h4.tape)), hT.output.trans (hgrow.output.trans (hb.output.trans h4.output)), by have := h4.size; omega,
      fun b hb' => (old b (by have := h4.size; omega) (fun e => by have := h3 b e; omega) (by omega)).trans (h4.block b hb')⟩
  · exact fun b hb' => (old b (by have := (hok b hb').2; omega) (fun e => by have := h3 b e; have := (hok b hb').2; omega) (by have := (hok b hb').2; omega)).trans (h5 b hb')

/-- What each slot stands for, ahead of the append of a choice's term. -/
def FnF (H g k N k0 : Nat) (V : Value) (s : ByteArray) (xs : List Value) : Facts := fun i v w => match i with
  | 0 => v = V
  | 1 => v = .pointer (some ⟨N, 2, none⟩)
  | 2 => v = .string s
  | 3 => v = .slice (some ⟨g, 0, none⟩) k k
  | 4 => w.ownsRow H 32 4 v k xs
  | 5 => ∃ u, v = .agg #[.int .u8 4, .int .i64 0, .string s, u] ∧ w.ownsRow H 32 4 u k xs
  | 6 => v = .int .i64 k0
  | 7 => ∃ q, v = .slice (some ⟨q, 0, none⟩) 1 1 ∧ w.heap[q]? = some (.cells #[.int .u8 0, .int .i64 0, .string ⟨#[]⟩, .slice none 0 0] 32 (0, 0))
  | _ => True
theorem FnF_grow (H g k N k0 : Nat) (V : Value) (s : ByteArray) (xs : List Value) (i : Nat) (v : Value) (w w' : World) (h : FnF H g k N k0 V s xs i v w) (hb : Below w.heap.size w w') : FnF H g k N k0 V s xs i v w' := by
  match i with
  | 0 | 1 | 2 | 3 | 6 => exact h
  | 4 => exact own_grown h hb
  | 5 =>
    obtain ⟨u, h1, h2⟩ := h
    exact ⟨u, h1, own_grown h2 hb⟩
  | 7 =>
    obtain ⟨q, h1, h2⟩ := h
    exact ⟨q, h1, (hb.block q (Array.getElem?_eq_some_iff.1 h2).1).trans h2⟩
  | i + 8 => trivial

/-- A sequence, by what holds between. -/
theorem wpOn_seq' {P : Program} {b : Frame} {Q : Exit → Act → World → Prop} {a : Act} {w : World} {x y : Code} (K : Act → World → Prop) (hy : ∀ a w, K a w → wpOn P b y Q a w) (h : wpOn P b x (Exit.then K Q) a w) : wpOn P b (.seq x y) Q a w :=
  wpOn_seq fun k cs => by
    obtain ⟨e, a', w', hq, hs⟩ := h k cs
    refine ⟨e, a', w', ?_, hs⟩
    cases e <;> first | exact hy _ _ hq | exact hq

/-- The arguments are expanded. -/
def FnK (N : Nat) (w : World) (cs : Array Value) (a : Option Addr) (cap : Nat) (args : List Tm) (a1 : Act) (wr : World) : Prop :=
  ∃ (ls : List (List Tm)) (v y5 y12 y13 y14 y15 y16 y17 y18 y19 y20 : Value), Tm.expL args = some ls ∧ ls.length = args.length ∧ ListsT N wr v ls ∧ Below N w wr ∧ wr.heap[N]? = some (.cells cs 32 (0, 0)) ∧ N + 1 ≤ wr.heap.size ∧
    a1 = { tmps := #[.agg cs, .pointer (some ⟨N, 0, none⟩), .slice none 0 0, v, undef, y5, undef, undef, .pointer (some ⟨N, 3, none⟩), .slice a args.length cap, .int .i64 args.length, .int .i64 args.length, y12, y13, y14, y15, y16, y17, y18, y19, y20,
      undef, undef, undef, undef, undef, undef, undef, undef, undef, undef, undef, undef, undef, undef, undef, undef, undef, undef], defers := [] }

set_option maxRecDepth 100000 in
set_option maxHeartbeats 40000000 in
theorem function_any (n : Int) (s : ByteArray) (args : List Tm) (IH : ∀ u ∈ args, ExpAt u) (c0 c1 c2 c3 : Value) (w : World) (h : IsTm w.heap.size w c0 c1 c2 c3 (.mk 4 n s args)) (hw : (Tm.mk 4 n s args).Wf) :
    Calls Tryz.prog 66 #[.agg #[c0, c1, c2, c3]] w (ExpPost (.mk 4 n s args) w) := by
  simp only [IsTm] at h
  obtain ⟨rfl, _, rfl, hn, rfl, hss, a, cap, rfl, hl, ha⟩ := h
  simp only [Tm.Wf] at hw
  obtain ⟨hw8, hw4, _, _, _, hwL⟩ := hw
  have HA := Lib.hid ha
  have HIH := Lib.hid IH
  have HWL := Lib.hid hwL
  have HW4 := Lib.hid (hw4 trivial)
  clear ha IH hwL hw4
  refine callsIn_wide.1 (calls_on (n := 0) Tryz.func66 rfl fun b hbf hbk hbr => ?_)
  simp only [Tryz.ntmps66, List.size_toArray, List.length_cons, List.length_nil, Nat.reduceAdd, Nat.reduceSub, Array.replicate_succ, Array.replicate_zero, List.push_toArray, List.append_toArray, List.nil_append, List.cons_append]
  refine wpOn_seq (wpOn_of (n := 0) hbr ?_)
  gi_wp2
  refine wpOn_seq (wpOn_of (n := 0) hbr ?_)
  gi_wp2
  refine wpOn_seq' (FnK w.heap.size w #[.int .u8 4, .int .i64 n, .string s, .slice a args.length cap] a cap args) ?rest (wpOn_of (n := 0) hbr ?_)
  case rest =>
    rintro a1 wr ⟨ls, v, y5, y12, y13, y14, y15, y16, y17, y18, y19, y20, hE, hll, hLs, hB, hb, hz, rfl⟩
    have hls1 : 1 ≤ ls.length := by rw [hll]; exact HW4.out
    have hLG := hLs.grow (((Below.refl _ wr).alloc (Nat.le_refl _) (.cells #[.slice none 0 0] 30)).alloc (by simp) (.cells #[v] 73))
    obtain ⟨W0, hW0⟩ : ∃ W0, (wr.alloc (.cells #[.slice none 0 0] 30)).alloc (.cells #[v] 73) = W0 := ⟨_, rfl⟩
    have hb1 : Boxed W0 wr.heap.size 30 (.slice none 0 0) := by rw [← hW0]; exact (Boxed.new _ _ _).alloc _
    have hb2 : W0.heap[wr.heap.size + 1]? = some (.cells #[v] 73 (0, 0)) := by
      rw [← hW0]; have := World.alloc_heap_new (wr.alloc (.cells #[.slice none 0 0] 30)) (.cells #[v] 73); rwa [World.size_alloc] at this
    have hsz : W0.heap.size = wr.heap.size + 2 := by rw [← hW0]; simp
    have hBl : Below wr.heap.size wr W0 := by rw [← hW0]; exact ((Below.refl _ wr).alloc (Nat.le_refl _) _).alloc (by simp) _
    rw [hW0] at hLG
    obtain ⟨vs, hown, hrows⟩ := hLs
    obtain ⟨bL, capL, rfl⟩ : ∃ bL capL, v = .slice (some ⟨bL, 0, none⟩) ls.length capL := by
      rcases hown.2 with ⟨_, h0⟩ | ⟨g, cap, cur, h1, _⟩
      · omega
      · exact ⟨g, cap, h1⟩
    have hbL := hown.lt bL rfl
    obtain ⟨ok, hok⟩ : ∃ ok : Nat → Prop, ok = fun b => w.heap.size ≤ b ∧ b < wr.heap.size := ⟨_, rfl⟩
    obtain ⟨Ls, hLm, hLc⟩ := lists_of (ok := ok) (w := W0) ls vs (fun i hi => by
      obtain ⟨u, hu, hR⟩ := hrows i hi
      exact ⟨u, hu, hR.keep fun b hf => ⟨by rw [hok]; exact ⟨hf.1, hf.2.1⟩, hBl.block b hf.2.1⟩⟩)
    have hLl : Ls.length = ls.length := by rw [← hLm]; simp
    have hRows : RowsE (ok := ok) (w0 := W0) W0 bL Ls := by
      refine ⟨by rw [hok]; exact ⟨hbL.1, hbL.2⟩, fun i hi => ?_⟩
      obtain ⟨a', cap', h1, h2, h3⟩ := hLc i hi
      have := (own_grown hown hBl).cells (g := bL) rfl i _ h1
      have hadd : (⟨bL, 0, none⟩ : Addr).add i = ⟨bL, i, none⟩ := by unfold Addr.add; split <;> simp_all
      rw [hadd] at this
      exact ⟨a', cap', this, h2, h3⟩
    refine wpOn_seq (wpOn_of (n := 0) hbr ?_)
    gi_wp2
    refine wpOn_seq (wpOn_seq (wpOn_of (n := 0) hbr ?_))
    gi_wp2_with (first | (refine ⟨trivial, rfl, ?_⟩; gi_at_call 77; refine (callsIn_wide.2 (combosT_any _ _ _ _)).mono ?_; rintro e w' ⟨rfl, rfl⟩))
    rw [hll] at hW0
    rw [hW0]
    have hLa : Ls.length = args.length := hLl.trans hll
    rw [hll] at hb2
    rw [← hLa] at hb2
    have hokl : ∀ b, ok b → b < W0.heap.size := fun b hb => by rw [hok] at hb; have := hb.2; omega
    have hN0 : w.heap.size ≤ W0.heap.size := by omega
    clear hW0 hLG hrows hLc hown
    refine wpOn_block (range_on (fn := Tryz.f66) (by rw [hbf]; exact Tryz.func66) hbr (gf := 91) (lb := #[.pointer (some ⟨wr.heap.size + 1, 0, none⟩)]) rfl (enters_of Tryz.func91 (by kernel_rfl) rfl)
      (n := 0) (combosT_seq Ls (by omega) bL capL (wr.heap.size + 1) 0 W0 hokl hRows hb2) ?hAb ?hKt ?hKb ?hC (fun _ _ => rfl)
      (FnL w.heap.size wr.heap.size s w) (fun ch W => ch = boom ∧ 1000 < (combos Ls).length ∧ Below w.heap.size w W) (FnL.own (Nat.le_refl _) hN0 hokl) (fun g hg => FnL.bears hN0 (by omega) hokl g hg) ?h0 ?hst
      (fun g a' _ => a' = { tmps := #[.agg #[.int .u8 4, .int .i64 n, .string s, .slice a args.length cap], .pointer (some ⟨w.heap.size, 0, none⟩), .slice none 0 0, .slice (some ⟨bL, 0, none⟩) args.length capL, undef, y5, .pointer (some ⟨wr.heap.size, 0, none⟩),
        .slice (some ⟨g, 0, none⟩) args.length args.length, .pointer (some ⟨w.heap.size, 3, none⟩), .slice a args.length cap, .int .i64 args.length, .int .i64 args.length, y12, y13, y14, y15, y16, y17, y18, y19, y20, .slice (some ⟨bL, 0, none⟩) args.length capL,
        .func (.func 91) #[] #[.pointer (some ⟨wr.heap.size + 1, 0, none⟩)], .slice (some ⟨g, 0, none⟩) args.length args.length, undef, undef, undef, undef, undef, undef, undef, undef, undef, undef, undef, undef, undef, undef, undef], defers := [] })
      (fun g a' => ownFrom_pure _ fun _ => _) ?hassign ?hbody ?hdone ?hpan)
    case hAb => exact fun g A B l o hlg hg hl _ => (hg.block l (Array.getElem?_eq_some_iff.1 hl).1 (fun e => by cases e; exact hlg rfl)).trans hl
    case hKt => exact fun g A B C h k => ⟨h.1.trans k.1, Nat.le_trans h.2.1 k.2.1, k.2.2.trans h.2.2⟩
    case hKb => exact fun g x W l o o' hl hlg _ _ => ⟨fun b hb => World.putObj_heap_other (by have := hokl b hb; omega), by simp, World.putObj_heap_other (by omega)⟩
    case hC =>
      intro g x W l o o' hc hl ho
      refine hc.block (World.putObj_heap_other fun e => ?_)
      subst e
      rcases hc.2 with ⟨h1, _⟩ | ⟨g', cap', cur, h1, _, h2, _⟩
      · cases h1
      · simp only [Value.slice.injEq, Option.some.injEq, Addr.mk.injEq, and_true, true_and] at h1
        obtain ⟨rfl, _⟩ := h1
        rw [hl] at h2; cases h2; cases ho
    case h0 => exact ⟨⟨_, hb1, Vals.nil _ _ _, fun k e => by cases e⟩, hB.trans (hBl.mono hB.size), KeepOk.refl _ _, Nat.le_refl _, Nat.zero_le _⟩
    case hst =>
      rintro g W W2 hW0 ⟨⟨v, h1, h2, h3⟩, h4, h5, h6, h7⟩ hg hg2 hb
      exact ⟨⟨v, (hb.block _ (by omega)).trans h1, (h2.shun hg).grow hb, h3⟩, h4.trans (hb.mono (by omega)), h5.trans fun b hb' => hb.block b (Nat.lt_of_lt_of_le (hokl b hb') h6), Nat.le_trans h6 hb.size, h7⟩
    case hassign =>
      intro m l g pre x W K hg hi hc hK
      have HK := Lib.hid (hK _ W (KeepsOthers.refl _ |>.from _) ⟨KeepOk.refl _ _, Nat.le_refl _, rfl⟩ hi hc rfl)
      clear hK
      gi_wp2
      exact HK.out
    case hdone =>
      rintro D o W hD ⟨⟨v, h1, h2, h3⟩, h4, h5, h6, h7⟩ hK
      have vc := h1.cell
      have HE := Lib.hid (show (Tm.mk 4 n s args).exp = some ((combos Ls).map (funT s)) by
        rw [Tm.exp_fun, hE, Option.bind_some, ← hLm, combos_map, List.length_map, if_pos h7, List.map_map]; rfl)
      have HV := Lib.hid (h2.open'.own (grownBy_putObj' W D (.deferred none)) (fun r e => by cases e; exact ⟨_, hK, rfl⟩))
      have HB := Lib.hid (h4.trans (belowK_b (w := w) (Nat.le_refl _) W D _ (.deferred none) (by omega) hK rfl rfl))
      have HK := Lib.hid hK
      clear h2 h3 h4 h5 hK
      refine wpOn_of (n := 0) hbr ?_
      gi_wp2
      refine ⟨by simp, .inl ⟨_, _, rfl, run_takeDeferred HK.out, ?_⟩⟩
      refine ⟨_, results_tmp rfl _ _ _, ?_⟩
      exact .inl ⟨_, v, HE.out, rfl, HV.out, HB.out⟩
    case hpan =>
      rintro D ch W hD ⟨rfl, h1, h2⟩ hK
      refine ⟨by simp, .inl ⟨_, _, rfl, run_takeDeferred hK, ?_⟩⟩
      refine .inr ⟨?_, rfl, h2.trans (belowK_b (w := w) (Nat.le_refl _) W D _ (.deferred none) (by omega) hK rfl rfl)⟩
      rw [Tm.exp_fun, hE, Option.bind_some, ← hLm, combos_map, List.length_map, if_neg (by omega)]
    case hbody =>
      rintro m l g pre x a' W hl0 hg hpf ⟨⟨V, h1, h2, h3⟩, h4, h5, h6, h7⟩ hc rfl
      have hple : pre.length + 1 ≤ (combos Ls).length := by simpa using hpf.length_le
      have vc := h1.cell
      have vf := h1.frozen
      obtain ⟨xs, hO, hH, hE'⟩ := h2
      obtain ⟨va, vk, hVs⟩ : ∃ va vk, V = .slice va pre.length vk := by
        rcases hO.2 with ⟨rfl, h0⟩ | ⟨g, cap, cur, rfl, _⟩
        · exact ⟨none, 0, by rw [show pre.length = 0 from by simpa using h0]⟩
        · exact ⟨some ⟨g, 0, none⟩, cap, by rw [List.length_map]⟩
      subst hVs
      have bN : W.heap[w.heap.size]? = some (.cells #[.int .u8 4, .int .i64 n, .string s, .slice a args.length cap] 32 (0, 0)) :=
        (h5 _ (by rw [hok]; omega)).trans ((hBl.block _ (by omega)).trans hb)
      have HC := Lib.hid hc
      have HO := Lib.hid hO
      have HH := Lib.hid hH
      have HE' := Lib.hid hE'
      have H1 := Lib.hid h1
      have H3 := Lib.hid h3
      have H4 := Lib.hid h4
      have H5 := Lib.hid h5
      have HPF := Lib.hid hpf
      clear hc hO hH hE' h1 h3 h4 h5 hpf
      by_cases hfar : 1000 < (pre.length : Int) + 1
      · gi_wp2_with (first | (refine ⟨trivial, wide_dep _, ?_⟩; gi_at_call 78; refine ((callsIn_wide.2 (limit_far _ hfar _)).inRound _).mono ?_; rintro e w' ⟨rfl, rfl⟩))
        exact ⟨rfl, (KeepsOthers.refl _).from _, rfl, by omega, H4.out⟩
      · gi_wp2_with (first | (refine ⟨trivial, wide_dep _, ?_⟩; gi_at_call 78; refine ((callsIn_wide.2 (limit_ok _ (by omega) _)).inRound _).mono ?_; rintro e w' ⟨rfl, rfl⟩))
        have mixed : Tryz.prog.follows .mixedOrders = true := by kernel_rfl
        have hzW : W0.heap.size ≤ W.heap.size := h6
        have hgW : g < W.heap.size := HC.out.lt
        refine wpIn_region_head mixed 8 (FnF W.heap.size g args.length w.heap.size pre.length (.slice va pre.length vk) s (flatE x)) (FnF_grow _ _ _ _ _ _ _ _) (by kernel_rfl) (by kernel_rfl) (steps_in ⟨?_, ?_, ?_, ?_, ?_, ?_, ?_, ?_, trivial⟩) ?_
        · intro a wx hb hd hs ho hp
          refine ⟨rfl, ?_⟩
          have q6 : a.tmps.getD 6 undef = _ := (ho 6 (by kernel_rfl)).trans rfl
          have x0 := (hb.cell (p := ⟨wr.heap.size, 0, none⟩) (by show wr.heap.size < _; omega)).trans vc
          unfold Oper.wpIn
          refine ⟨fun _ _ => trivial, ?_⟩
          go_simp
          exact Stepped.at rfl hd (Below.refl _ _) rfl
        · intro a wx hb hd hs ho hp
          refine ⟨rfl, ?_⟩
          have q1 : a.tmps.getD 1 undef = _ := (ho 1 (by kernel_rfl)).trans rfl
          unfold Oper.wpIn
          refine ⟨fun _ _ => trivial, ?_⟩
          go_simp
          exact Stepped.at rfl hd (Below.refl _ _) rfl
        · intro a wx hb hd hs ho hp
          refine ⟨rfl, ?_⟩
          have q29 : a.tmps.getD 29 undef = .pointer (some ⟨w.heap.size, 2, none⟩) := facts_at hp 1 29 (by kernel_rfl)
          have x0 := cells_at ((hb.block w.heap.size (by omega)).trans bN) 2 _ rfl
          unfold Oper.wpIn
          refine ⟨fun _ _ => trivial, ?_⟩
          go_simp
          exact Stepped.at rfl hd (Below.refl _ _) rfl
        · intro a wx hb hd hs ho hp
          refine ⟨rfl, ?_⟩
          have q7 : a.tmps.getD 7 undef = _ := (ho 7 (by kernel_rfl)).trans rfl
          unfold Oper.wpIn
          refine ⟨fun _ _ => trivial, ?_⟩
          go_simp
          exact Stepped.at rfl hd (Below.refl _ _) rfl
        · intro a wx hb hd hs ho hp
          refine ⟨rfl, ?_⟩
          have q31 : a.tmps.getD 31 undef = .slice (some ⟨g, 0, none⟩) args.length args.length := facts_at hp 3 31 (by kernel_rfl)
          have HK := Lib.hid (clone_any g args.length (flatE x) (by omega) wx (by have := HC.out; rw [hLa] at this; exact own_grown this hb) (oneCells (flatE_hold x)))
          unfold Oper.wpIn
          refine ⟨fun _ _ => trivial, ?_⟩
          go_simp
          refine ⟨wide_dep _, ((callsIn_wide.2 HK.out).inRound _).mono ?_⟩
          rintro e w2 ⟨v', rfl, h1, h2⟩
          exact Stepped.at rfl hd h2 (ownsRow_lower' h1 hb.size)
        · intro a wx hb hd hs ho hp
          refine ⟨rfl, ?_⟩
          have q30 : a.tmps.getD 30 undef = .string s := facts_at hp 2 30 (by kernel_rfl)
          obtain ⟨u, hu⟩ : ∃ u, a.tmps.getD 32 undef = u := ⟨_, rfl⟩
          have q32 : FnF W.heap.size g args.length w.heap.size pre.length (.slice va pre.length vk) s (flatE x) 4 u wx := hu ▸ facts_at hp 4 32 (by kernel_rfl)
          obtain ⟨ua, un, uc, rfl⟩ : ∃ ua un uc, u = .slice ua un uc := by
            rcases q32.2 with ⟨e, _⟩ | ⟨_, _, _, e, _⟩
            · exact ⟨_, _, _, e⟩
            · exact ⟨_, _, _, e⟩
          have s30 := qslot_of (hs.trans (show _ = 39 from rfl)) (by decide) q30
          have s32 := qslot_of (hs.trans (show _ = 39 from rfl)) (by decide) hu
          have HQ := Lib.hid q32; clear q32
          unfold Oper.wpIn
          refine ⟨fun _ _ => trivial, ?_⟩
          go_simp
          exact Stepped.at (v := .agg #[.int .u8 4, .int .i64 0, .string s, .slice ua un uc]) rfl hd (Below.refl _ _) ⟨_, rfl, HQ.out⟩
        · intro a wx hb hd hs ho hp
          refine ⟨rfl, ?_⟩
          have q28 : a.tmps.getD 28 undef = .slice va pre.length vk := facts_at hp 0 28 (by kernel_rfl)
          unfold Oper.wpIn
          refine ⟨fun _ _ => trivial, ?_⟩
          go_simp
          exact Stepped.at rfl hd (Below.refl _ _) rfl
        · intro a wx hb hd hs ho hp
          refine ⟨rfl, ?_⟩
          unfold Oper.wpIn
          refine ⟨fun _ _ => trivial, ?_⟩
          go_simp
          exact Stepped.at (v := .slice (some ⟨wx.heap.size, 0, none⟩) 1 1) rfl hd ((Below.refl _ _).alloc (Nat.le_refl _) _) ⟨wx.heap.size, rfl, World.alloc_heap_new _ _⟩
        intro m' a wx hb hd hs ho hf
        have k28 : a.tmps.getD 28 undef = .slice va pre.length vk := facts_to hf 0 28 (by decide) (by kernel_rfl)
        obtain ⟨u, k33, hu⟩ : FnF W.heap.size g args.length w.heap.size pre.length (.slice va pre.length vk) s (flatE x) 5 (a.tmps.getD 33 undef) wx := facts_to hf 5 33 (by decide) (by kernel_rfl)
        obtain ⟨ua, un, uc, rfl⟩ : ∃ ua un uc, u = .slice ua un uc := by
          rcases hu.2 with ⟨e, _⟩ | ⟨_, _, _, e, _⟩
          · exact ⟨_, _, _, e⟩
          · exact ⟨_, _, _, e⟩
        have HU := Lib.hid hu
        clear hu
        have k34 : a.tmps.getD 34 undef = .int .i64 pre.length := facts_to hf 6 34 (by decide) (by kernel_rfl)
        obtain ⟨q, k35, hq⟩ : FnF W.heap.size g args.length w.heap.size pre.length (.slice va pre.length vk) s (flatE x) 7 (a.tmps.getD 35 undef) wx := facts_to hf 7 35 (by decide) (by kernel_rfl)
        have k6 : a.tmps.getD 6 undef = .pointer (some ⟨wr.heap.size, 0, none⟩) := (ho 6 (by kernel_rfl)).trans rfl
        clear hf
        obtain ⟨T, D⟩ := a
        simp only at hd hs k28 k33 k34 k35 k6
        subst hd
        have hE := slots_all T 39 (hs.trans rfl)
        simp only [List.range, List.range.loop, List.map, k28, k33, k34, k35, k6] at hE
        rw [hE]
        clear hE k28 k33 k34 k35 k6 ho hs
        obtain ⟨i0, hi, hz0, hz1, hz2⟩ := info_parts info_term
        refine any_one (i := 8) (by kernel_rfl) rfl ?_
        refine wpListIn_append_own_at _ rfl _ _ 30 rfl w.heap.size 32 i0 _ 4 56 Tryz.underlying30 hi hz0 hz1 hz2 rfl (by decide) (.slice va pre.length vk) pre.length xs rfl ?c0 ⟨q, 0, none⟩ 1 1 [.int .u8 0, .int .i64 0, .string ⟨#[]⟩, .slice none 0 0] rfl rfl ?c1 ?c2 ?c3 ?c4 ?c5 ?_
        case c2 => simp [Value.oneCell']
        case c3 => unfold maxLen; omega
        case c4 => omega
        case c5 => have := hb.size; omega
        case c1 =>
          intro jj u' hu'
          rcases jj with _ | _ | _ | _ | jj
          · cases hu'; exact cells_at hq 0 _ rfl
          · cases hu'; exact cells_at hq 1 _ rfl
          · cases hu'; exact cells_at hq 2 _ rfl
          · cases hu'; exact cells_at hq 3 _ rfl
          · simp at hu'
        case c0 => have := own_grown HO.out hb; rwa [List.length_map] at this
        intro V' w1 hown' hgrow _ hat
        obtain ⟨gg, cap', rfl⟩ := ownsRow_succ hown'
        have hBx : Boxed wx wr.heap.size 30 (.slice va pre.length vk) := (hb.block _ (by omega)).trans H1.out
        have hOx := own_grown HO.out hb
        have hB1 : Boxed w1 wr.heap.size 30 (.slice va pre.length vk) := hBx.kept hgrow (own_not hOx hBx (by decide)).symm
        have ggn : wr.heap.size ≠ gg := by
          intro e
          subst e
          exact own_not hown' hB1 (by decide) rfl
        have hfr := fun j => hown'.frozenAt j
        have f0 := hfr (pre.length * 4)
        have f1 := hfr (pre.length * 4 + 1)
        have f2 := hfr (pre.length * 4 + 2)
        have f3 := hfr (pre.length * 4 + 3)
        have fv := hB1.frozen
        have cv := hB1.cell
        have hxl : xs.length = pre.length * 4 := by have := HO.out.1; rwa [List.length_map] at this
        have e0 : w1.cell? ⟨gg, pre.length * 4, none⟩ = some (.int .u8 0) := by rw [hown'.cellAt _ (by omega), ← hxl]; simp
        have e1 : w1.cell? ⟨gg, pre.length * 4 + 1, none⟩ = some (.int .i64 0) := by rw [hown'.cellAt _ (by omega), ← hxl, List.getElem?_append_right (by omega)]; simp
        have e2 : w1.cell? ⟨gg, pre.length * 4 + 2, none⟩ = some (.string ⟨#[]⟩) := by rw [hown'.cellAt _ (by omega), ← hxl, List.getElem?_append_right (by omega)]; simp
        have e3 : w1.cell? ⟨gg, pre.length * 4 + 3, none⟩ = some (.slice none 0 0) := by rw [hown'.cellAt _ (by omega), ← hxl, List.getElem?_append_right (by omega)]; simp
        have HOW := Lib.hid hown'
        have HGR := Lib.hid hgrow
        have HAT := Lib.hid hat
        clear hown' hgrow hat hfr
        have i1 : (0 : Int) ≤ (pre.length : Int) := by omega
        have i2 : (pre.length : Int) < (pre.length : Int) + 1 := by omega
        have FIN : ∀ W3 : World, Two gg wr.heap.size w1 W3 → W3.ownsRow w.heap.size 32 4 (.slice (some ⟨gg, 0, none⟩) (pre.length + 1) cap') (pre.length + 1) (xs ++ [.int .u8 4, .int .i64 0, .string s, .slice ua un uc]) →
            Boxed W3 wr.heap.size 30 (.slice (some ⟨gg, 0, none⟩) (pre.length + 1) cap') → KeepsFrom W0.heap.size W W3 ∧ KpE ok g W W3 ∧ FnL (ok := ok) (W0 := W0) w.heap.size wr.heap.size s w (some g) (pre ++ [x]) W3 := fun W3 hT hO3 hB3 =>
          FnL.step (gg := gg) (K := args.length) (fun b hb => by rw [hok] at hb; exact hb) (by omega) (by omega) hss (by rw [combos_length Ls x (HPF.out.subset (by simp)), hLa]) ⟨HW4.out, hw8⟩ H1.out (by have := HO.out; rwa [List.length_map] at this) HH.out (HE'.out g rfl) H3.out H4.out H5.out hzW (by omega) hg hgW hb HU.out HGR.out rfl
            (by rcases HAT.out with e | e
                · exact .inl e
                · exact .inr (by simpa [Value.ownBlock] using e)) hT hO3 hB3
        have FA := Lib.hid (FIN (((((w1.setCell ⟨gg, pre.length * 4, none⟩ (.int .u8 4)).setCell ⟨gg, pre.length * 4 + 1, none⟩ (.int .i64 0)).setCell ⟨gg, pre.length * 4 + 2, none⟩ (.string s)).setCell ⟨gg, pre.length * 4 + 3, none⟩ (.slice ua un uc)).setCell ⟨wr.heap.size, 0, none⟩ (.slice (some ⟨gg, 0, none⟩) (pre.length + 1) cap')) (((((Two.refl _ _ _).cell _ _ _ (.inl rfl)).cell _ _ _ (.inl rfl)).cell _ _ _ (.inl rfl)).cell _ _ _ (.inl rfl) |>.cell _ _ _ (.inr rfl))
          (ownsRow_setCell_other (own_set4 _ _ _ _ HOW.out hxl) (by simp [Value.ownBlock]; omega) _) ((boxed_off (boxed_off (boxed_off (boxed_off hB1 ggn _) ggn _) ggn _) ggn _).set _))
        have FB := Lib.hid (FIN (((((w1.setCell ⟨wr.heap.size, 0, none⟩ (.slice (some ⟨gg, 0, none⟩) (pre.length + 1) cap')).setCell ⟨gg, pre.length * 4, none⟩ (.int .u8 4)).setCell ⟨gg, pre.length * 4 + 1, none⟩ (.int .i64 0)).setCell ⟨gg, pre.length * 4 + 2, none⟩ (.string s)).setCell ⟨gg, pre.length * 4 + 3, none⟩ (.slice ua un uc)) (((((Two.refl _ _ _).cell _ _ _ (.inr rfl)).cell _ _ _ (.inl rfl)).cell _ _ _ (.inl rfl)).cell _ _ _ (.inl rfl) |>.cell _ _ _ (.inl rfl))
          (own_set4 _ _ _ _ (ownsRow_setCell_other HOW.out (by simp [Value.ownBlock]; omega) _) hxl) (boxed_off (boxed_off (boxed_off (boxed_off (hB1.set _) ggn _) ggn _) ggn _) ggn _))
        clear FIN
        refine any_two (i := 9) (j := 11) (by kernel_rfl) rfl rfl ?_ ?_
        · gi_wp2
          refine any_two (i := 10) (j := 11) (by kernel_rfl) rfl rfl ?_ ?_
          · gi_wp2
            refine any_one (i := 11) (by kernel_rfl) rfl ?_
            gi_wp2
            refine wpAnyIn_done (by kernel_rfl) ?_ _
            exact FA.out
          · gi_wp2
            refine any_one (i := 10) (by kernel_rfl) rfl ?_
            gi_wp2
            refine wpAnyIn_done (by kernel_rfl) ?_ _
            exact FB.out
        · gi_wp2
          refine any_one (i := 9) (by kernel_rfl) rfl ?_
          gi_wp2
          refine any_one (i := 10) (by kernel_rfl) rfl ?_
          gi_wp2
          refine wpAnyIn_done (by kernel_rfl) ?_ _
          exact FB.out
  have b0 : (w.alloc (.cells #[.int .u8 4, .int .i64 n, .string s, .slice a args.length cap] 32)).heap[w.heap.size]? = some (.cells #[.int .u8 4, .int .i64 n, .string s, .slice a args.length cap] 32 (0, 0)) := World.alloc_heap_new _ _
  gi_wp2
  gi_loopw [3, 11] (fun v i wr => FnI w.heap.size w #[.int .u8 4, .int .i64 n, .string s, .slice a args.length cap] args v i wr) (fun _ i _ => args.length - (intOf i).toNat)
  case atStart => exact ⟨0, [], Nat.zero_le _, rfl, by simp [Tm.expL], rfl, ListsT.nil _ _, (Below.refl _ w).alloc (Nat.le_refl _) _, b0, by simp⟩
  case round =>
    clear b0
    obtain ⟨j, ls, hj, rfl, hE, hjl, hLs, hB, hb, hz⟩ := hrel
    by_cases hlt : j < args.length
    · obtain ⟨bk, off, rfl, hbk', hI⟩ := HA.out (by intro e; rw [e] at hlt; simp at hlt)
      obtain ⟨c0, c1, c2, c3, e0, e1, e2, e3, hc⟩ := hI.at j hlt
      have g0 := (hB.cell (p := ⟨bk, off + j * 4, none⟩) (by show bk < _; omega)).trans e0
      have g1 := (hB.cell (p := ⟨bk, off + j * 4 + 1, none⟩) (by show bk < _; omega)).trans e1
      have g2 := (hB.cell (p := ⟨bk, off + j * 4 + 2, none⟩) (by show bk < _; omega)).trans e2
      have g3 := (hB.cell (p := ⟨bk, off + j * 4 + 3, none⟩) (by show bk < _; omega)).trans e3
      have hih := HIH.out args[j] (List.getElem_mem hlt)
      have hwf := Tm.WfL_mem HWL.out (List.getElem_mem hlt)
      have htk := Tm.expL_take hlt
      rw [hE] at htk
      obtain ⟨u, hq⟩ : ∃ u, args[j] = u := ⟨_, rfl⟩
      rw [hq] at hc hih hwf htk
      obtain ⟨k', n', s', as'⟩ := u
      have hc0 := hc
      simp only [IsTm] at hc
      obtain ⟨rfl, _, rfl, hn', rfl, _, a', cap', rfl, _, _⟩ := hc
      have hA : Below wr.heap.size wr (wr.alloc (.cells #[.int .u8 k', .int .i64 n', .string s', .slice a' as'.length cap'] 32)) := (Below.refl _ wr).alloc (Nat.le_refl _) _
      have hBA := hB.trans (hA.mono hB.size)
      have HC := Lib.hid (hih _ _ _ _ _ ((hc0.below hBA).mono hBA.size) hwf)
      have HLs := Lib.hid hLs
      have HB := Lib.hid hB
      have HT := Lib.hid htk
      have HBB := Lib.hid hb
      have HHA := Lib.hid hA
      clear e0 e1 e2 e3 hih hwf htk hc0 hI hLs hB hA hBA hb hE
      have i1 : (0 : Int) ≤ (j : Int) := by omega
      have i2 : (j : Int) < (args.length : Int) := by omega
      cases hx : (Tm.mk k' n' s' as').exp with
      | none =>
        rw [hx] at HT
        have HN := Lib.hid (Tm.expL_none_take (j + 1) HT.out)
        have HP := Lib.hid (HC.out.mono (R' := fun e W2 => e = .panicked boom ∧ Below (wr.alloc (.cells #[.int .u8 k', .int .i64 n', .string s', .slice a' as'.length cap'] 32)).heap.size (wr.alloc (.cells #[.int .u8 k', .int .i64 n', .string s', .slice a' as'.length cap'] 32)) W2) (by
          rintro e W2 (⟨ts, v2, h1, _⟩ | ⟨_, h2, h3⟩)
          · rw [hx] at h1; cases h1
          · exact ⟨h2, h3⟩))
        clear HC HT hx
        gi_wp2_with (first | (refine ⟨trivial, rfl, ?_⟩; gi_at_call 39; refine (callsIn_wide.2 HP.out).mono ?_; clear HP; rintro e W2 ⟨rfl, h4⟩))
        have z1 := HHA.out.size
        exact .inr ⟨by rw [Tm.exp_fun, HN.out]; rfl, rfl, HB.out.trans ((HHA.out.mono HB.out.size).trans (h4.mono (by have := HB.out.size; omega)))⟩
      | some tsj =>
        rw [hx] at HT
        have hts := exp_le hx
        have HP := Lib.hid (HC.out.mono (R' := fun e W2 => ∃ a2 n2 c2, e = .returned (.slice a2 n2 c2) ∧ Vals none (wr.alloc (.cells #[.int .u8 k', .int .i64 n', .string s', .slice a' as'.length cap'] 32)).heap.size W2 (.slice a2 n2 c2) tsj ∧ Below (wr.alloc (.cells #[.int .u8 k', .int .i64 n', .string s', .slice a' as'.length cap'] 32)).heap.size (wr.alloc (.cells #[.int .u8 k', .int .i64 n', .string s', .slice a' as'.length cap'] 32)) W2) (by
          rintro e W2 (⟨ts, v2, h1, h2, h3, h4⟩ | ⟨h1, _⟩)
          · rw [hx] at h1; cases h1
            obtain ⟨a2, n2, c2, rfl⟩ := h3.slice
            exact ⟨a2, n2, c2, h2, h3, h4⟩
          · rw [hx] at h1; cases h1))
        clear HC hx
        obtain ⟨i0, hi, hz0, hz1, hz2⟩ := info_parts info_terms
        obtain ⟨vs, hown, hrows⟩ := HLs.out
        have HOW := Lib.hid hown
        have HRW := Lib.hid hrows
        clear hown hrows
        gi_wp2_with (first | (refine ⟨trivial, rfl, ?_⟩; gi_at_call 39; refine (callsIn_wide.2 HP.out).mono ?_; clear HP; rintro e W2 ⟨a2, n2, c2, rfl, hv2, h4⟩) | (gi_at_builtin; refine wpListIn_append_own_at _ rfl _ _ 73 rfl w.heap.size 30 i0 _ 1 24 Tryz.underlying73 hi hz0 hz1 hz2 rfl (by decide) u3 ls.length vs rfl ?c0 _ 1 1 [.slice a2 n2 c2] rfl rfl ?c1 ?c2 ?c3 ?c4 ?c5 ?_))
        case c2 => simp [Value.oneCell']
        case c3 => unfold maxLen; omega
        case c4 => omega
        case c1 => exact cell_one_new _ _ _
        case c5 => have := HHA.out.size; have := h4.size; simp; omega
        case c0 => exact own_grown (own_grown HOW.out HHA.out) (h4.alloc h4.size _)
        intro v' w' hown' hgrow _ hat
        have hBel := HHA.out.trans ((h4.alloc h4.size (.cells #[.slice a2 n2 c2] 30)).mono HHA.out.size)
        have hOW := own_grown HOW.out hBel
        have z1 := HHA.out.size
        have z2 := h4.size
        have z3 := hgrow.size
        rw [World.size_alloc] at z3
        have hBN : Below w.heap.size w w' := (HB.out.trans (hBel.mono HB.out.size)).grown hgrow (by simp; omega) (fun k e => (HOW.out.lt k e).1)
        have hb' : w'.heap[w.heap.size]? = _ := (hgrow.block w.heap.size (by simp; omega) (fun e => own_not hOW ((hBel.block _ (by omega)).trans HBB.out) (by decide) e.symm)).trans ((hBel.block _ (by omega)).trans HBB.out)
        have hL' : ListsT w.heap.size w' v' (ls ++ [tsj]) := ListsT.app hOW
          (fun i hi => by
            obtain ⟨u, hu, hR⟩ := HRW.out i hi
            exact ⟨u, hu, hR.keep fun b hf => ⟨⟨hf.1, Nat.lt_of_lt_of_le hf.2.1 hBel.size, hf.2.2⟩, hBel.block b hf.2.1⟩⟩)
          ((hv2.rowIn (Nat.le_refl _)).keep fun b hf => ⟨⟨by omega, by simp; omega, fun e => by have := (HOW.out.lt b e).2; omega⟩, Below.heap_alloc _ _ _ hf.2⟩) (by rw [hjl]; exact hown') hgrow (by rw [World.size_alloc]; exact hat)
        have HF := Lib.hid (show FnI w.heap.size w #[.int .u8 4, .int .i64 n, .string s, .slice (some ⟨bk, off, none⟩) args.length cap] args v' (.int .i64 ((j + 1 : Nat) : Int)) w' from
          ⟨j + 1, ls ++ [tsj], by omega, rfl, by rw [HT.out]; rfl, by simp [hjl], hL', hBN, hb', by omega⟩)
        clear hown' hgrow hat hBel hOW hBN hb' hL' HRW HOW
        gi_wp2
        go_roundw
        case rel => exact HF.out
        case measure => simp [intOf]; omega
    · have hje : j = args.length := by omega
      subst hje
      rw [List.take_of_length_le (Nat.le_refl _)] at hE
      gi_wp2
      exact ⟨ls, _, _, _, _, _, _, _, _, _, _, _, hE, hjl, hLs, hB, hb, hz, rfl⟩
end Go.Proofs.YtnobmffgchlijaaGreatDoor
