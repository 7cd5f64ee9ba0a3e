/- Terms in memory whose blocks lie in a given set; rows of terms that a call owns. -/
import Derived.Test.YtnobmffgchlijaaGreatDoorTm
import Derived.Deep.AppendLies
import Derived.WalkKit
namespace Go.Proofs.YtnobmffgchlijaaGreatDoor
open Go.RowKit

mutual
/-- As IsTm; the blocks that the term leads to are in the set. -/
def IsTmIn (ok : Nat → Prop) (w : World) (c0 c1 c2 c3 : Value) : Tm → Prop
  | .mk k n s args => c0 = .int .u8 k ∧ (0 ≤ k ∧ k ≤ 255) ∧ c1 = .int .i64 n ∧ I64 n ∧ c2 = .string s ∧ s.size ≤ maxLen ∧
      ∃ (a : Option Addr) (cap : Nat), c3 = .slice a args.length cap ∧ args.length ≤ maxLen ∧ (args ≠ [] → ∃ b off, a = some ⟨b, off, none⟩ ∧ ok b ∧ IsTmsIn ok w b off args)
def IsTmsIn (ok : Nat → Prop) (w : World) (b off : Nat) : List Tm → Prop
  | [] => True
  | t :: ts => ∃ c0 c1 c2 c3, w.cell? ⟨b, off, none⟩ = some c0 ∧ w.cell? ⟨b, off + 1, none⟩ = some c1 ∧ w.cell? ⟨b, off + 2, none⟩ = some c2 ∧ w.cell? ⟨b, off + 3, none⟩ = some c3 ∧
      IsTmIn ok w c0 c1 c2 c3 t ∧ IsTmsIn ok w b (off + 4) ts
end

theorem cell_block {w w' : World} {b o : Nat} (h : w'.heap[b]? = w.heap[b]?) : w'.cell? ⟨b, o, none⟩ = w.cell? ⟨b, o, none⟩ := World.cell?_of_block (a := ⟨b, o, none⟩) h

mutual
theorem IsTmIn.keep {ok ok' : Nat → Prop} {w w' : World} (h : ∀ b, ok b → ok' b ∧ w'.heap[b]? = w.heap[b]?) {c0 c1 c2 c3 : Value} : ∀ {t : Tm}, IsTmIn ok w c0 c1 c2 c3 t → IsTmIn ok' w' c0 c1 c2 c3 t
  | .mk _ _ _ args, ht => by
    simp only [IsTmIn] at ht ⊢
    obtain ⟨h0, hk, h1, hn, h2, hs, a, cap, h3, hl, hr⟩ := ht
    refine ⟨h0, hk, h1, hn, h2, hs, a, cap, h3, hl, fun hne => ?_⟩
    obtain ⟨b, off, ha, hb, hi⟩ := hr hne
    exact ⟨b, off, ha, (h b hb).1, IsTmsIn.keep h hb hi⟩
theorem IsTmsIn.keep {ok ok' : Nat → Prop} {w w' : World} (h : ∀ b, ok b → ok' b ∧ w'.heap[b]? = w.heap[b]?) {b off : Nat} (hb : ok b) : ∀ {ts : List Tm}, IsTmsIn ok w b off ts → IsTmsIn ok' w' b off ts
  | [], _ => by simp only [IsTmsIn]
  | t :: ts, ht => by
    simp only [IsTmsIn] at ht ⊢
    obtain ⟨c0, c1, c2, c3, h0, h1, h2, h3, hi, hr⟩ := ht
    have e := fun o => cell_block (o := o) (h b hb).2
    exact ⟨c0, c1, c2, c3, (e _).trans h0, (e _).trans h1, (e _).trans h2, (e _).trans h3, IsTmIn.keep h hi, IsTmsIn.keep h hb hr⟩
end
theorem IsTmsIn.cells {ok ok' : Nat → Prop} {w w' : World} (h : ∀ b, ok b → ok' b ∧ w'.heap[b]? = w.heap[b]?) {b : Nat} (hb : w'.heap[b]? = w.heap[b]?) : ∀ {ts : List Tm} {off : Nat}, IsTmsIn ok w b off ts → IsTmsIn ok' w' b off ts
  | [], _, _ => by simp only [IsTmsIn]
  | t :: ts, off, ht => by
    simp only [IsTmsIn] at ht ⊢
    obtain ⟨c0, c1, c2, c3, h0, h1, h2, h3, hi, hr⟩ := ht
    have e := fun o => cell_block (o := o) hb
    exact ⟨c0, c1, c2, c3, (e _).trans h0, (e _).trans h1, (e _).trans h2, (e _).trans h3, IsTmIn.keep h hi, IsTmsIn.cells h hb hr⟩

mutual
theorem IsTmIn.isTm {ok : Nat → Prop} {B : Nat} (h : ∀ b, ok b → b < B) {w : World} {c0 c1 c2 c3 : Value} : ∀ {t : Tm}, IsTmIn ok w c0 c1 c2 c3 t → IsTm B w c0 c1 c2 c3 t
  | .mk _ _ _ args, ht => by
    simp only [IsTmIn, IsTm] at ht ⊢
    obtain ⟨h0, hk, h1, hn, h2, hs, a, cap, h3, hl, hr⟩ := ht
    refine ⟨h0, hk, h1, hn, h2, hs, a, cap, h3, hl, fun hne => ?_⟩
    obtain ⟨b, off, ha, hb, hi⟩ := hr hne
    exact ⟨b, off, ha, h b hb, IsTmsIn.isTms h hi⟩
theorem IsTmsIn.isTms {ok : Nat → Prop} {B : Nat} (h : ∀ b, ok b → b < B) {w : World} {b off : Nat} : ∀ {ts : List Tm}, IsTmsIn ok w b off ts → IsTms B w b off ts
  | [], _ => by simp only [IsTms]
  | t :: ts, ht => by
    simp only [IsTmsIn, IsTms] at ht ⊢
    obtain ⟨c0, c1, c2, c3, h0, h1, h2, h3, hi, hr⟩ := ht
    exact ⟨c0, c1, c2, c3, h0, h1, h2, h3, IsTmIn.isTm h hi, IsTmsIn.isTms h hr⟩
end
mutual
theorem IsTm.isIn {B : Nat} {w : World} {c0 c1 c2 c3 : Value} : ∀ {t : Tm}, IsTm B w c0 c1 c2 c3 t → IsTmIn (· < B) w c0 c1 c2 c3 t
  | .mk _ _ _ args, ht => by
    simp only [IsTmIn, IsTm] at ht ⊢
    obtain ⟨h0, hk, h1, hn, h2, hs, a, cap, h3, hl, hr⟩ := ht
    refine ⟨h0, hk, h1, hn, h2, hs, a, cap, h3, hl, fun hne => ?_⟩
    obtain ⟨b, off, ha, hb, hi⟩ := hr hne
    exact ⟨b, off, ha, hb, IsTms.isIns hi⟩
theorem IsTms.isIns {B : Nat} {w : World} {b off : Nat} : ∀ {ts : List Tm}, IsTms B w b off ts → IsTmsIn (· < B) w b off ts
  | [], _ => by simp only [IsTmsIn]
  | t :: ts, ht => by
    simp only [IsTmsIn, IsTms] at ht ⊢
    obtain ⟨c0, c1, c2, c3, h0, h1, h2, h3, hi, hr⟩ := ht
    exact ⟨c0, c1, c2, c3, h0, h1, h2, h3, IsTm.isIn hi, IsTms.isIns hr⟩
end

/-- The cells are the terms', four a term. -/
def HoldL (ok : Nat → Prop) (w : World) : List Value → List Tm → Prop
  | xs, [] => xs = []
  | xs, t :: ts => ∃ c0 c1 c2 c3 r, xs = c0 :: c1 :: c2 :: c3 :: r ∧ IsTmIn ok w c0 c1 c2 c3 t ∧ HoldL ok w r ts
theorem HoldL.keep {ok ok' : Nat → Prop} {w w' : World} (h : ∀ b, ok b → ok' b ∧ w'.heap[b]? = w.heap[b]?) : ∀ {ts : List Tm} {xs : List Value}, HoldL ok w xs ts → HoldL ok' w' xs ts
  | [], _, hx => hx
  | _ :: _, _, ⟨c0, c1, c2, c3, r, e, ht, hr⟩ => ⟨c0, c1, c2, c3, r, e, ht.keep h, HoldL.keep h hr⟩
theorem HoldL.len {ok : Nat → Prop} {w : World} : ∀ {ts : List Tm} {xs : List Value}, HoldL ok w xs ts → xs.length = ts.length * 4
  | [], _, hx => by rw [show _ = [] from hx]; rfl
  | t :: ts, _, ⟨c0, c1, c2, c3, r, e, ht, hr⟩ => by rw [e]; simp [HoldL.len hr]; omega
theorem HoldL.append {ok : Nat → Prop} {w : World} : ∀ {ts us : List Tm} {xs ys : List Value}, HoldL ok w xs ts → HoldL ok w ys us → HoldL ok w (xs ++ ys) (ts ++ us)
  | [], _, _, _, hx, hy => by rw [show _ = [] from hx]; exact hy
  | t :: ts, _, _, _, ⟨c0, c1, c2, c3, r, e, ht, hr⟩, hy => ⟨c0, c1, c2, c3, r ++ _, by rw [e]; rfl, ht, HoldL.append hr hy⟩
theorem HoldL.one {ok : Nat → Prop} {w : World} {c0 c1 c2 c3 : Value} {t : Tm} (h : IsTmIn ok w c0 c1 c2 c3 t) : HoldL ok w [c0, c1, c2, c3] [t] := ⟨c0, c1, c2, c3, [], rfl, h, rfl⟩
theorem HoldL.at {ok : Nat → Prop} {w : World} : ∀ {ts : List Tm} {xs : List Value}, HoldL ok w xs ts → ∀ i (h : i < ts.length), ∃ c0 c1 c2 c3, xs[i * 4]? = some c0 ∧ xs[i * 4 + 1]? = some c1 ∧ xs[i * 4 + 2]? = some c2 ∧ xs[i * 4 + 3]? = some c3 ∧ IsTmIn ok w c0 c1 c2 c3 ts[i]
  | [], _, _, i, h => absurd h (by simp)
  | t :: ts, _, ⟨c0, c1, c2, c3, r, e, ht, hr⟩, i, h => by
    subst e
    cases i with
    | zero => exact ⟨c0, c1, c2, c3, rfl, rfl, rfl, rfl, ht⟩
    | succ i =>
      obtain ⟨d0, d1, d2, d3, h0, h1, h2, h3, hi⟩ := HoldL.at hr i (by simpa using h)
      refine ⟨d0, d1, d2, d3, ?_, ?_, ?_, ?_, hi⟩
      · rw [show (i + 1) * 4 = i * 4 + 4 from by omega]; exact h0
      · rw [show (i + 1) * 4 + 1 = (i * 4 + 1) + 4 from by omega]; exact h1
      · rw [show (i + 1) * 4 + 2 = (i * 4 + 2) + 4 from by omega]; exact h2
      · rw [show (i + 1) * 4 + 3 = (i * 4 + 3) + 4 from by omega]; exact h3
theorem HoldL.tms {ok : Nat → Prop} {w : World} {g : Nat} : ∀ {ts : List Tm} {xs : List Value} {off : Nat}, HoldL ok w xs ts → (∀ j u, xs[j]? = some u → w.cell? ⟨g, off + j, none⟩ = some u) → IsTmsIn ok w g off ts
  | [], _, _, _, _ => by simp only [IsTmsIn]
  | t :: ts, _, off, ⟨c0, c1, c2, c3, r, e, ht, hr⟩, hc => by
    subst e
    simp only [IsTmsIn]
    refine ⟨c0, c1, c2, c3, hc 0 _ rfl, hc 1 _ rfl, hc 2 _ rfl, hc 3 _ rfl, ht, HoldL.tms hr fun j u hu => ?_⟩
    have := hc (j + 4) u hu
    rwa [show off + (j + 4) = off + 4 + j from by omega] at this
theorem HoldL.of_tms {ok : Nat → Prop} {w : World} {b : Nat} : ∀ {ts : List Tm} {off : Nat}, IsTmsIn ok w b off ts → ∃ xs, HoldL ok w xs ts ∧ ∀ j u, xs[j]? = some u → w.cell? ⟨b, off + j, none⟩ = some u
  | [], _, _ => ⟨[], rfl, fun j u h => by simp at h⟩
  | t :: ts, off, h => by
    simp only [IsTmsIn] at h
    obtain ⟨c0, c1, c2, c3, h0, h1, h2, h3, ht, hr⟩ := h
    obtain ⟨xs, hx, hc⟩ := HoldL.of_tms hr
    refine ⟨c0 :: c1 :: c2 :: c3 :: xs, ⟨c0, c1, c2, c3, xs, rfl, ht, hx⟩, fun j u hu => ?_⟩
    match j, hu with
    | 0, hu => cases hu; exact h0
    | 1, hu => cases hu; exact h1
    | 2, hu => cases hu; exact h2
    | 3, hu => cases hu; exact h3
    | j + 4, hu => rw [show off + (j + 4) = off + 4 + j from by omega]; exact hc j u hu

/-- Blocks from base on that exist and are neither the value's own row nor a given one. -/
def Far (ex : Option Nat) (base : Nat) (w : World) (v : Value) (b : Nat) : Prop := base ≤ b ∧ b < w.heap.size ∧ v.ownBlock ≠ some b ∧ ex ≠ some b
/-- The value is a row of terms that the call owns; what the terms lead to is not the row, nor the given block. -/
def Vals (ex : Option Nat) (base : Nat) (w : World) (v : Value) (ts : List Tm) : Prop :=
  ∃ xs, w.ownsRow base 32 4 v ts.length xs ∧ HoldL (Far ex base w v) w xs ts ∧ ∀ g, ex = some g → v.ownBlock ≠ some g
theorem Vals.nil (ex : Option Nat) (base : Nat) (w : World) : Vals ex base w (.slice none 0 0) [] := ⟨[], World.ownsRow_nil _ _ _ _, rfl, fun _ _ h => by cases h⟩
theorem own_grown {w w' : World} {base : Nat} {e : TypeId} {size : Nat} {v : Value} {n : Nat} {xs : List Value} (h : w.ownsRow base e size v n xs) (hb : Below w.heap.size w w') : w'.ownsRow base e size v n xs :=
  h.kept (row := none) ⟨hb.os, hb.tape, hb.output, hb.size, fun k hk _ => hb.block k hk⟩ (by cases h1 : v.ownBlock <;> simp)
theorem Vals.grow {ex : Option Nat} {base : Nat} {w w' : World} {v : Value} {ts : List Tm} (h : Vals ex base w v ts) (hb : Below w.heap.size w w') : Vals ex base w' v ts := by
  obtain ⟨xs, ho, hh, hx⟩ := h
  exact ⟨xs, own_grown ho hb, hh.keep fun b hf => ⟨⟨hf.1, Nat.lt_of_lt_of_le hf.2.1 hb.size, hf.2.2⟩, hb.block b hf.2.1⟩, hx⟩
/-- The given block may change. -/
theorem Vals.other {g base : Nat} {w w' : World} {v : Value} {ts : List Tm} (h : Vals (some g) base w v ts) (hg : w.grownBy w' (some g)) : Vals (some g) base w' v ts := by
  obtain ⟨xs, ho, hh, hx⟩ := h
  exact ⟨xs, ho.kept hg (.inr (hx g rfl)), hh.keep fun b hf => ⟨⟨hf.1, Nat.lt_of_lt_of_le hf.2.1 hg.size, hf.2.2⟩, hg.block b hf.2.1 (fun e => hf.2.2.2 e.symm)⟩, hx⟩
theorem Vals.open' {ex : Option Nat} {base : Nat} {w : World} {v : Value} {ts : List Tm} (h : Vals ex base w v ts) : Vals none base w v ts := by
  obtain ⟨xs, ho, hh, _⟩ := h
  exact ⟨xs, ho, hh.keep fun b hf => ⟨⟨hf.1, hf.2.1, hf.2.2.1, by simp⟩, rfl⟩, fun _ e => by cases e⟩
theorem Vals.shun {base g : Nat} {w : World} {v : Value} {ts : List Tm} (h : Vals none base w v ts) (hg : w.heap.size ≤ g) : Vals (some g) base w v ts := by
  obtain ⟨xs, ho, hh, _⟩ := h
  exact ⟨xs, ho, hh.keep fun b hf => ⟨⟨hf.1, hf.2.1, hf.2.2.1, by intro e; cases e; have := hf.2.1; omega⟩, rfl⟩, fun g' e => by cases e; intro e; have := (ho.lt g e).2; omega⟩
theorem Vals.one {base : Nat} {w : World} {g : Nat} {c0 c1 c2 c3 : Value} {t : Tm} (hb : base ≤ g) (hg : w.heap[g]? = some (.cells #[c0, c1, c2, c3] 32 (0, 0))) (h : IsTmIn (fun b => base ≤ b ∧ b < w.heap.size ∧ b ≠ g) w c0 c1 c2 c3 t) :
    Vals none base w (.slice (some ⟨g, 0, none⟩) 1 1) [t] :=
  ⟨[c0, c1, c2, c3], ⟨rfl, .inr ⟨g, 1, #[c0, c1, c2, c3], rfl, hb, hg, Nat.le_refl _, by unfold maxLen; omega, rfl, rfl⟩⟩, HoldL.one (h.keep fun b hf => ⟨⟨hf.1, hf.2.1, by simp [Value.ownBlock]; omega, by simp⟩, rfl⟩), fun _ e => by cases e⟩
/-- More terms, appended. -/
theorem Vals.app {ex : Option Nat} {base : Nat} {w w' : World} {v v' : Value} {ts us : List Tm} {xs ys : List Value} (ho : HoldL (Far ex base w v) w xs ts) (hx : ∀ g, ex = some g → v.ownBlock ≠ some g ∧ g < w.heap.size) (hy : HoldL (Far ex base w v) w ys us)
    (hown : w'.ownsRow base 32 4 v' (ts.length + us.length) (xs ++ ys)) (hg : w.grownBy w' v.ownBlock) (hat : v'.ownBlock = v.ownBlock ∨ v'.ownBlock = some w.heap.size) : Vals ex base w' v' (ts ++ us) := by
  have hk : ∀ b, Far ex base w v b → Far ex base w' v' b ∧ w'.heap[b]? = w.heap[b]? := fun b hf =>
    ⟨⟨hf.1, Nat.lt_of_lt_of_le hf.2.1 hg.size, by
      rcases hat with e | e <;> rw [e]
      · exact hf.2.2.1
      · intro e'; cases e'; exact absurd hf.2.1 (by omega), hf.2.2.2⟩, hg.block b hf.2.1 (fun e => hf.2.2.1 e.symm)⟩
  refine ⟨xs ++ ys, by rw [List.length_append]; exact hown, (ho.keep hk).append (hy.keep hk), fun g e => ?_⟩
  rcases hat with e' | e' <;> rw [e']
  · exact (hx g e).1
  · intro e''; cases e''; have := (hx _ e).2; omega
/-- The value is a slice of the terms. -/
def RowV (w : World) (v : Value) (ts : List Tm) : Prop := ∃ (a : Option Addr) (cap : Nat), v = .slice a ts.length cap ∧ ts.length ≤ maxLen ∧ (ts ≠ [] → ∃ b off, a = some ⟨b, off, none⟩ ∧ b < w.heap.size ∧ IsTms w.heap.size w b off ts)
theorem RowV.grow {w w' : World} {v : Value} {ts : List Tm} (h : RowV w v ts) (hb : Below w.heap.size w w') : RowV w' v ts := by
  obtain ⟨a, cap, hv, hl, hr⟩ := h
  refine ⟨a, cap, hv, hl, fun hne => ?_⟩
  obtain ⟨b, off, ha, hbl, hi⟩ := hr hne
  have := hb.size
  exact ⟨b, off, ha, by omega, (hi.below hb hbl).mono hb.size⟩
/-- The row as a slice of terms. -/
theorem Vals.tms {ex : Option Nat} {base : Nat} {w : World} {v : Value} {ts : List Tm} (h : Vals ex base w v ts) : RowV w v ts := by
  obtain ⟨xs, ho, hh, _⟩ := h
  have ho' := ho
  obtain ⟨_, ⟨rfl, hn⟩ | ⟨g, cap, cur, rfl, _, hg, hc, hm, _, _⟩⟩ := ho
  · refine ⟨none, 0, by rw [hn], by rw [hn]; exact Nat.zero_le _, fun hne => absurd (List.length_eq_zero_iff.1 hn) hne⟩
  · refine ⟨some ⟨g, 0, none⟩, cap, rfl, Nat.le_trans hc hm, fun _ => ⟨g, 0, rfl, (Array.getElem?_eq_some_iff.1 hg).1, ?_⟩⟩
    refine (HoldL.tms hh (off := 0) fun j u hu => ?_).isTms fun b hf => hf.2.1
    have := ho'.cells (g := g) rfl j u hu
    have hadd : (⟨g, 0, none⟩ : Addr).add j = ⟨g, j, none⟩ := by unfold Addr.add; split <;> simp_all
    rwa [hadd, show (⟨g, j, none⟩ : Addr) = ⟨g, 0 + j, none⟩ from by rw [Nat.zero_add]] at this

/-- The value is a row of numbers that the call owns. -/
def Nums (base : Nat) (w : World) (v : Value) (l : List Int) : Prop := w.ownsRow base 3 1 v l.length (l.map (Value.int .i64))
theorem Nums.nil (base : Nat) (w : World) : Nums base w (.slice none 0 0) [] := World.ownsRow_nil _ _ _ _
theorem Nums.grow {base : Nat} {w w' : World} {v : Value} {l : List Int} (h : Nums base w v l) (hb : Below w.heap.size w w') : Nums base w' v l := own_grown h hb
end Go.Proofs.YtnobmffgchlijaaGreatDoor
