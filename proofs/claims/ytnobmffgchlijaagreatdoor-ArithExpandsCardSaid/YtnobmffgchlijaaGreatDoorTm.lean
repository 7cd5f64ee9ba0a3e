/- Terms as plain data, and what it means that memory holds one. -/
import Derived.Below
import Derived.Carry
import Derived.Lib.Hide
namespace Go.Proofs.YtnobmffgchlijaaGreatDoor
open Go.RowKit

/-- A term: kind, number, name, arguments. -/
inductive Tm where
  | mk (k : Int) (n : Int) (s : ByteArray) (args : List Tm)

def Tm.kind : Tm → Int | .mk k _ _ _ => k
def Tm.num : Tm → Int | .mk _ n _ _ => n
def Tm.name : Tm → ByteArray | .mk _ _ s _ => s
def Tm.args : Tm → List Tm | .mk _ _ _ l => l

mutual
theorem Tm.ind {P : Tm → Prop} (h : ∀ k n s args, (∀ t ∈ args, P t) → P (.mk k n s args)) : ∀ t, P t
  | .mk k n s args => h k n s args (Tm.indL h args)
theorem Tm.indL {P : Tm → Prop} (h : ∀ k n s args, (∀ t ∈ args, P t) → P (.mk k n s args)) : ∀ ts : List Tm, ∀ t ∈ ts, P t
  | [] => fun _ ht => by cases ht
  | a :: ts => List.forall_mem_cons.2 ⟨Tm.ind h a, Tm.indL h ts⟩
end

/-- What fits an int. -/
def I64 (n : Int) : Prop := (Lit.int .i64 n).wf = true

mutual
/-- The world holds the term in the four cells; all that it leads to lies below B. -/
def IsTm (B : Nat) (w : World) (c0 c1 c2 c3 : Value) : Tm → Prop
  | .mk k n s args => c0 = .int .u8 k ∧ (0 ≤ k ∧ k ≤ 255) ∧ c1 = .int .i64 n ∧ I64 n ∧ c2 = .string s ∧ s.size ≤ maxLen ∧
      ∃ (a : Option Addr) (cap : Nat), c3 = .slice a args.length cap ∧ args.length ≤ maxLen ∧ (args ≠ [] → ∃ b off, a = some ⟨b, off, none⟩ ∧ b < B ∧ IsTms B w b off args)
/-- The cells from off on hold the terms, four cells each. -/
def IsTms (B : Nat) (w : World) (b off : Nat) : List Tm → Prop
  | [] => True
  | t :: ts => ∃ c0 c1 c2 c3, w.cell? ⟨b, off, none⟩ = some c0 ∧ w.cell? ⟨b, off + 1, none⟩ = some c1 ∧ w.cell? ⟨b, off + 2, none⟩ = some c2 ∧ w.cell? ⟨b, off + 3, none⟩ = some c3 ∧
      IsTm B w c0 c1 c2 c3 t ∧ IsTms B w b (off + 4) ts
end

mutual
theorem IsTm.below {B : Nat} {w w' : World} (h : Below B w w') {c0 c1 c2 c3 : Value} : ∀ {t : Tm}, IsTm B w c0 c1 c2 c3 t → IsTm B w' c0 c1 c2 c3 t
  | .mk _ _ _ args, ht => by
    simp only [IsTm] at ht ⊢
    obtain ⟨h0, hk, h1, hn, h2, hs, a, cap, h3, hl, hr⟩ := ht
    refine ⟨h0, hk, h1, hn, h2, hs, a, cap, h3, hl, fun hne => ?_⟩
    obtain ⟨b, off, ha, hb, hi⟩ := hr hne
    exact ⟨b, off, ha, hb, IsTms.below h hb hi⟩
theorem IsTms.below {B : Nat} {w w' : World} (h : Below B w w') {b off : Nat} (hb : b < B) : ∀ {ts : List Tm}, IsTms B w b off ts → IsTms B w' b off ts
  | [], _ => by simp only [IsTms]
  | t :: ts, ht => by
    simp only [IsTms] at ht ⊢
    obtain ⟨c0, c1, c2, c3, h0, h1, h2, h3, hi, hr⟩ := ht
    exact ⟨c0, c1, c2, c3, (h.cell (p := ⟨b, off, none⟩) hb).trans h0, (h.cell (p := ⟨b, off + 1, none⟩) hb).trans h1, (h.cell (p := ⟨b, off + 2, none⟩) hb).trans h2,
      (h.cell (p := ⟨b, off + 3, none⟩) hb).trans h3, IsTm.below h hi, IsTms.below h hb hr⟩
end

mutual
theorem IsTm.mono {B B' : Nat} (hB : B ≤ B') {w : World} {c0 c1 c2 c3 : Value} : ∀ {t : Tm}, IsTm B w c0 c1 c2 c3 t → IsTm B' w c0 c1 c2 c3 t
  | .mk _ _ _ args, ht => by
    simp only [IsTm] at ht ⊢
    obtain ⟨h0, hk, h1, hn, h2, hs, a, cap, h3, hl, hr⟩ := ht
    refine ⟨h0, hk, h1, hn, h2, hs, a, cap, h3, hl, fun hne => ?_⟩
    obtain ⟨b, off, ha, hb, hi⟩ := hr hne
    exact ⟨b, off, ha, by omega, IsTms.mono hB hi⟩
theorem IsTms.mono {B B' : Nat} (hB : B ≤ B') {w : World} {b off : Nat} : ∀ {ts : List Tm}, IsTms B w b off ts → IsTms B' w b off ts
  | [], _ => by simp only [IsTms]
  | t :: ts, ht => by
    simp only [IsTms] at ht ⊢
    obtain ⟨c0, c1, c2, c3, h0, h1, h2, h3, hi, hr⟩ := ht
    exact ⟨c0, c1, c2, c3, h0, h1, h2, h3, IsTm.mono hB hi, IsTms.mono hB hr⟩
end

/-- One of the terms in a row of cells. -/
theorem IsTms.at {B : Nat} {w : World} {b : Nat} : ∀ {ts : List Tm} {off : Nat}, IsTms B w b off ts → ∀ (i : Nat) (hi : i < ts.length),
    ∃ c0 c1 c2 c3, w.cell? ⟨b, off + i * 4, none⟩ = some c0 ∧ w.cell? ⟨b, off + i * 4 + 1, none⟩ = some c1 ∧ w.cell? ⟨b, off + i * 4 + 2, none⟩ = some c2 ∧ w.cell? ⟨b, off + i * 4 + 3, none⟩ = some c3 ∧
      IsTm B w c0 c1 c2 c3 ts[i]
  | [], _, _, i, hi => absurd hi (by simp)
  | t :: ts, off, ht, i, hi => by
    simp only [IsTms] at ht
    obtain ⟨c0, c1, c2, c3, h0, h1, h2, h3, hc, hr⟩ := ht
    cases i with
    | zero => exact ⟨c0, c1, c2, c3, h0, h1, h2, h3, hc⟩
    | succ i =>
      have e : off + (i + 1) * 4 = off + 4 + i * 4 := by omega
      rw [e]
      exact IsTms.at hr i (by simpa using hi)

theorem cells_at {W : World} {b : Nat} {cs : Array Value} {t : TypeId} {f : Nat × Nat} (h : W.heap[b]? = some (.cells cs t f)) (i : Nat) (v : Value) (hv : cs[i]? = some v) : W.cell? ⟨b, i, none⟩ = some v := by
  simp [World.cell?, h, hv]

mutual
/-- The terms with their nesting levels, each before its arguments. -/
def Tm.nodes (l : Nat) : Tm → List (Tm × Nat)
  | .mk k n s args => (.mk k n s args, l) :: Tm.nodesL (l + 1) args
def Tm.nodesL (l : Nat) : List Tm → List (Tm × Nat)
  | [] => []
  | t :: ts => Tm.nodes l t ++ Tm.nodesL l ts
end

mutual
def Tm.depth : Tm → Nat
  | .mk _ _ _ args => Tm.depthL args + 1
def Tm.depthL : List Tm → Nat
  | [] => 0
  | t :: ts => max (Tm.depth t) (Tm.depthL ts)
end

mutual
def Tm.count : Tm → Nat
  | .mk _ _ _ args => Tm.countL args + 1
def Tm.countL : List Tm → Nat
  | [] => 0
  | t :: ts => Tm.count t + Tm.countL ts
end

theorem Tm.depthL_mem : ∀ {ts : List Tm} {t : Tm}, t ∈ ts → t.depth ≤ Tm.depthL ts
  | a :: ts, t, h => by
    simp only [Tm.depthL]
    rcases List.mem_cons.1 h with rfl | h
    · omega
    · have := Tm.depthL_mem h; omega

mutual
theorem Tm.depth_le_count : ∀ t : Tm, t.depth ≤ t.count
  | .mk _ _ _ args => by
    simp only [Tm.depth, Tm.count]
    have := Tm.depthL_le_countL args; omega
theorem Tm.depthL_le_countL : ∀ ts : List Tm, Tm.depthL ts ≤ Tm.countL ts
  | [] => by simp only [Tm.depthL, Tm.countL]; omega
  | t :: ts => by
    simp only [Tm.depthL, Tm.countL]
    have := Tm.depth_le_count t
    have := Tm.depthL_le_countL ts
    omega
end

theorem Tm.nodesL_append (l : Nat) : ∀ a b : List Tm, Tm.nodesL l (a ++ b) = Tm.nodesL l a ++ Tm.nodesL l b
  | [], b => by simp [Tm.nodesL]
  | t :: a, b => by simp [Tm.nodesL, Tm.nodesL_append l a b]
theorem Tm.nodesL_snoc (l : Nat) (ts : List Tm) (j : Nat) (hj : j < ts.length) : Tm.nodesL l (ts.take (j + 1)) = Tm.nodesL l (ts.take j) ++ Tm.nodes l ts[j] := by
  rw [List.take_succ_eq_append_getElem hj, Tm.nodesL_append]
  simp [Tm.nodesL]
theorem Tm.nodesL_prefix (l : Nat) (ts : List Tm) (j : Nat) (hj : j < ts.length) {q : List (Tm × Nat)} (h : q <+: Tm.nodes l ts[j]) : Tm.nodesL l (ts.take j) ++ q <+: Tm.nodesL l ts := by
  have e : Tm.nodesL l ts = Tm.nodesL l (ts.take (j + 1)) ++ Tm.nodesL l (ts.drop (j + 1)) := by rw [← Tm.nodesL_append, List.take_append_drop]
  rw [e, Tm.nodesL_snoc l ts j hj, List.append_assoc]
  obtain ⟨r, hr⟩ := h
  exact ⟨r ++ Tm.nodesL l (ts.drop (j + 1)), by rw [← hr]; simp⟩

end Go.Proofs.YtnobmffgchlijaaGreatDoor
