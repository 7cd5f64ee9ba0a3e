/- Package term: Compare's order on terms, as plain mathematics: a sign, antisymmetric, 0 for equal terms alone, transitive. -/
import Derived.Test.YtnobmffgchlijaaGreatDoorCm
import Derived.Sort.Walk0
namespace Go.Proofs.YtnobmffgchlijaaGreatDoor

/-- A sign, its opposite, and how three go together in an order. -/
def Sg (x : Int) : Prop := x = -1 ∨ x = 0 ∨ x = 1
def Tri (x y z : Int) : Prop := x ≤ 0 → y ≤ 0 → z ≤ 0 ∧ (z = 0 ↔ x = 0 ∧ y = 0)
theorem orI_zero {a b : Int} : orI a b = 0 ↔ a = 0 ∧ b = 0 := by unfold orI; by_cases h : a = 0 <;> simp [h]
theorem Sg.or {a b : Int} (ha : Sg a) (hb : Sg b) : Sg (orI a b) := by
  unfold orI
  split
  · exact ha
  · exact hb
theorem orI_neg {a b a' b' : Int} (ha : a' = -a) (hb : a = 0 → b' = -b) : orI a' b' = -orI a b := by
  unfold orI
  by_cases h : a = 0
  · have : a' = 0 := by omega
    simp [h, this, hb h]
  · simp [h, ha]
theorem orI_l {a b : Int} (h : a ≠ 0) : orI a b = a := if_pos h
theorem orI_r {a b : Int} (h : a = 0) : orI a b = b := if_neg (fun e => e h)
theorem Tri.or {a1 a2 a3 b1 b2 b3 : Int} (ha : Tri a1 a2 a3) (hb : a1 = 0 → a2 = 0 → Tri b1 b2 b3) : Tri (orI a1 b1) (orI a2 b2) (orI a3 b3) := by
  intro hx hy
  by_cases h1 : a1 = 0 <;> by_cases h2 : a2 = 0
  · have h3 := (ha (by omega) (by omega)).2.2 ⟨h1, h2⟩
    rw [orI_r h1] at hx ⊢
    rw [orI_r h2] at hy ⊢
    rw [orI_r h3]
    exact hb h1 h2 hx hy
  · rw [orI_l h2] at hy ⊢
    have h := ha (by omega) hy
    have h3 : a3 ≠ 0 := fun e => h2 (h.2.1 e).2
    rw [orI_l h3]
    exact ⟨h.1, ⟨fun e => absurd e h3, fun e => absurd e.2 h2⟩⟩
  · rw [orI_l h1] at hx ⊢
    have h := ha hx (by omega)
    have h3 : a3 ≠ 0 := fun e => h1 (h.2.1 e).1
    rw [orI_l h3]
    exact ⟨h.1, ⟨fun e => absurd e h3, fun e => absurd e.1 h1⟩⟩
  · rw [orI_l h1] at hx ⊢
    rw [orI_l h2] at hy ⊢
    have h := ha hx hy
    have h3 : a3 ≠ 0 := fun e => h1 (h.2.1 e).1
    rw [orI_l h3]
    exact ⟨h.1, ⟨fun e => absurd e h3, fun e => absurd e.1 h1⟩⟩

theorem int_sg (a b : Int) : Sg (Lib.compareInt a b) := by unfold Sg Lib.compareInt; split <;> (try split) <;> omega
theorem int_neg (a b : Int) : Lib.compareInt b a = -Lib.compareInt a b := by unfold Lib.compareInt; split <;> split <;> (try split) <;> (try split) <;> omega
theorem int_zero {a b : Int} : Lib.compareInt a b = 0 ↔ a = b := by unfold Lib.compareInt; split <;> (try split) <;> omega
theorem int_le {a b : Int} : Lib.compareInt a b ≤ 0 ↔ a ≤ b := by unfold Lib.compareInt; split <;> (try split) <;> omega
theorem int_tri (a b c : Int) : Tri (Lib.compareInt a b) (Lib.compareInt b c) (Lib.compareInt a c) := by
  intro h1 h2
  rw [int_le] at *
  rw [int_zero, int_zero, int_zero]
  omega

theorem less_irrefl : ∀ x : List UInt8, Op.bytesLess x x = false
  | [] => rfl
  | a :: x => by simp [Op.bytesLess, less_irrefl x]
/-- Bytes compared, as an order on lists. -/
def byC (x y : List UInt8) : Int := if Op.bytesLess x y then -1 else if x == y then 0 else 1
theorem byC_cons (a b : UInt8) (x y : List UInt8) : byC (a :: x) (b :: y) = orI (Lib.compareInt a.toNat b.toNat) (byC x y) := by
  have hlt : (a < b) ↔ ((a.toNat : Int) < b.toNat) := by rw [UInt8.lt_iff_toNat_lt]; omega
  by_cases h2 : a = b
  · subst h2
    rw [orI_r (int_zero.2 rfl)]
    simp [byC, Op.bytesLess]
  · have h3 : Lib.compareInt a.toNat b.toNat ≠ 0 := fun e => h2 (UInt8.toNat_inj.1 (by have := int_zero.1 e; omega))
    rw [orI_l h3]
    by_cases h1 : a < b
    · have h5 := hlt.1 h1
      unfold byC Lib.compareInt
      rw [if_pos h5]
      simp [Op.bytesLess, h1]
    · have h5 : ¬ ((a.toNat : Int) < b.toNat) := fun h => h1 (hlt.2 h)
      have h6 : (a.toNat : Int) > b.toNat := by
        have h7 : (a.toNat : Int) ≠ b.toNat := fun e => h3 (int_zero.2 e)
        omega
      unfold byC Lib.compareInt
      rw [if_neg h5, if_pos h6]
      simp [Op.bytesLess, h1, h2]
theorem byC_sg : ∀ x y : List UInt8, Sg (byC x y)
  | [], [] => Or.inr (Or.inl rfl)
  | [], _ :: _ => Or.inl rfl
  | _ :: _, [] => Or.inr (Or.inr rfl)
  | a :: x, b :: y => by rw [byC_cons]; exact (int_sg _ _).or (byC_sg x y)
theorem byC_neg : ∀ x y : List UInt8, byC y x = -byC x y
  | [], [] => rfl
  | [], _ :: _ => rfl
  | _ :: _, [] => rfl
  | a :: x, b :: y => by rw [byC_cons, byC_cons]; exact orI_neg (int_neg _ _) (fun _ => byC_neg x y)
theorem byC_zero {x y : List UInt8} : byC x y = 0 ↔ x = y := by
  unfold byC
  by_cases h : x = y
  · subst h; simp [less_irrefl]
  · by_cases h2 : Op.bytesLess x y <;> simp [h, h2]
theorem byC_up (b : UInt8) (y : List UInt8) : byC [] (b :: y) = -1 := rfl
theorem byC_down (b : UInt8) (y : List UInt8) : byC (b :: y) [] = 1 := rfl
theorem byC_tri : ∀ x y z : List UInt8, Tri (byC x y) (byC y z) (byC x z)
  | [], [], z => by intro _ h2; exact ⟨h2, by simp [byC_zero]⟩
  | [], b :: y, [] => by intro _ h2; rw [byC_down] at h2; omega
  | [], b :: y, c :: z => by intro _ _; rw [byC_up, byC_up]; exact ⟨by omega, by omega⟩
  | a :: x, [], _ => by intro h1; rw [byC_down] at h1; omega
  | a :: x, b :: y, [] => by intro _ h2; rw [byC_down] at h2; omega
  | a :: x, b :: y, c :: z => by rw [byC_cons, byC_cons, byC_cons]; exact (int_tri _ _ _).or (fun _ _ => byC_tri x y z)
theorem strCmp_eq (s t : ByteArray) : strCmp s t = byC s.toList t.toList := rfl
theorem str_inj {s t : ByteArray} : s.toList = t.toList ↔ s = t := by
  constructor
  · intro h
    rw [ByteArray.toList_eq, ByteArray.toList_eq] at h
    cases s; cases t
    simp only at h
    congr 1
    exact Array.toList_inj.1 h
  · intro h; rw [h]

theorem rank_inj {k k' : Int} (h : 0 ≤ k) (h' : 0 ≤ k') : rankI k = rankI k' ↔ k = k' := by
  unfold rankI
  constructor
  · intro e
    split at e <;> split at e <;> (try split at e) <;> (try split at e) <;> (try split at e) <;> (try split at e) <;> omega
  · intro e; rw [e]

/-- Compare, as the first of five signs that is not 0. -/
theorem cmp_or (k n k' n' : Int) (s s' : ByteArray) (us us' : List Tm) : Tm.cmp (.mk k n s us) (.mk k' n' s' us') =
    orI (Lib.compareInt (rankI k) (rankI k')) (orI (if k = 1 then Lib.compareInt n n' else 0) (orI (Lib.compareInt us.length us'.length) (orI (strCmp s s') (orI (Tm.cmpL us us') (Lib.compareInt n n'))))) := by
  simp only [Tm.cmp]
  by_cases h1 : Lib.compareInt (rankI k) (rankI k') = 0
  · rw [if_neg (fun e => e h1), orI_r h1]
    by_cases hk : k = 1 ∧ n ≠ n'
    · rw [if_pos hk, if_pos hk.1, orI_l (fun e => hk.2 (int_zero.1 e))]
    · have z : (if k = 1 then Lib.compareInt n n' else 0) = 0 := by
        split
        · next hk1 => exact int_zero.2 (Decidable.byContradiction fun e => hk ⟨hk1, e⟩)
        · rfl
      rw [if_neg hk, orI_r z]
      by_cases h3 : Lib.compareInt us.length us'.length = 0
      · rw [orI_r h3, orI_r h3]
        by_cases h4 : strCmp s s' = 0
        · rw [if_neg (fun e => e h4), orI_r h4]
          rfl
        · rw [if_pos h4, orI_l h4]
      · rw [orI_l h3, orI_l h3, if_pos h3]
  · rw [if_pos h1, orI_l h1]
theorem cmpL_cons (a b : Tm) (us bs : List Tm) : Tm.cmpL (a :: us) (b :: bs) = orI (Tm.cmp a b) (Tm.cmpL us bs) := by simp only [Tm.cmpL]; rfl

mutual
/-- No kind is negative. -/
def Tm.Good : Tm → Prop
  | .mk k _ _ us => 0 ≤ k ∧ Tm.GoodL us
def Tm.GoodL : List Tm → Prop
  | [] => True
  | t :: ts => Tm.Good t ∧ Tm.GoodL ts
end
mutual
theorem cmp_sg : ∀ a b : Tm, Sg (Tm.cmp a b)
  | .mk k n s us, .mk k' n' s' us' => by
    rw [cmp_or]
    refine (int_sg _ _).or (Sg.or ?_ ((int_sg _ _).or ((byC_sg _ _).or ((cmpL_sg us us').or (int_sg _ _)))))
    split
    · exact int_sg _ _
    · exact Or.inr (Or.inl rfl)
theorem cmpL_sg : ∀ a b : List Tm, Sg (Tm.cmpL a b)
  | [], [] => by simp only [Tm.cmpL]; exact Or.inr (Or.inl rfl)
  | [], _ :: _ => by simp only [Tm.cmpL]; exact Or.inl rfl
  | _ :: _, [] => by simp only [Tm.cmpL]; exact Or.inr (Or.inr rfl)
  | a :: us, b :: bs => by rw [cmpL_cons]; exact (cmp_sg a b).or (cmpL_sg us bs)
end
mutual
theorem cmp_neg : ∀ a b : Tm, a.Good → b.Good → Tm.cmp b a = -Tm.cmp a b
  | .mk k n s us, .mk k' n' s' us', ha, hb => by
    simp only [Tm.Good] at ha hb
    rw [cmp_or, cmp_or]
    refine orI_neg (int_neg _ _) (fun h => ?_)
    have hk : k = k' := (rank_inj ha.1 hb.1).1 (int_zero.1 h)
    subst hk
    refine orI_neg ?_ (fun _ => orI_neg (int_neg _ _) (fun _ => orI_neg (byC_neg _ _) (fun _ => orI_neg (cmpL_neg us us' ha.2 hb.2) (fun _ => int_neg _ _))))
    split
    · exact int_neg _ _
    · rfl
theorem cmpL_neg : ∀ a b : List Tm, Tm.GoodL a → Tm.GoodL b → Tm.cmpL b a = -Tm.cmpL a b
  | [], [], _, _ => by simp only [Tm.cmpL]; rfl
  | [], _ :: _, _, _ => by simp only [Tm.cmpL]; rfl
  | _ :: _, [], _, _ => by simp only [Tm.cmpL]
  | a :: us, b :: bs, ha, hb => by
    simp only [Tm.GoodL] at ha hb
    rw [cmpL_cons, cmpL_cons]
    exact orI_neg (cmp_neg a b ha.1 hb.1) (fun _ => cmpL_neg us bs ha.2 hb.2)
end
mutual
theorem cmp_zero : ∀ a b : Tm, a.Good → b.Good → (Tm.cmp a b = 0 ↔ a = b)
  | .mk k n s us, .mk k' n' s' us', ha, hb => by
    simp only [Tm.Good] at ha hb
    rw [cmp_or, orI_zero, orI_zero, orI_zero, orI_zero, orI_zero, int_zero, int_zero, int_zero, strCmp_eq, byC_zero, str_inj, cmpL_zero us us' ha.2 hb.2, rank_inj ha.1 hb.1]
    constructor
    · rintro ⟨rfl, _, _, rfl, rfl, rfl⟩; rfl
    · intro e
      injection e with e1 e2 e3 e4
      subst e1 e2 e3 e4
      refine ⟨rfl, ?_, rfl, rfl, rfl, rfl⟩
      split
      · exact int_zero.2 rfl
      · rfl
theorem cmpL_zero : ∀ a b : List Tm, Tm.GoodL a → Tm.GoodL b → (Tm.cmpL a b = 0 ↔ a = b)
  | [], [], _, _ => by simp only [Tm.cmpL]
  | [], _ :: _, _, _ => by simp [Tm.cmpL]
  | _ :: _, [], _, _ => by simp [Tm.cmpL]
  | a :: us, b :: bs, ha, hb => by
    simp only [Tm.GoodL] at ha hb
    rw [cmpL_cons, orI_zero, cmp_zero a b ha.1 hb.1, cmpL_zero us bs ha.2 hb.2, List.cons.injEq]
end
mutual
theorem cmp_tri : ∀ a b c : Tm, a.Good → b.Good → c.Good → Tri (Tm.cmp a b) (Tm.cmp b c) (Tm.cmp a c)
  | .mk k n s us, .mk k' n' s' us', .mk k2 n2 s2 us2, ha, hb, hc => by
    simp only [Tm.Good] at ha hb hc
    rw [cmp_or, cmp_or, cmp_or]
    refine (int_tri _ _ _).or (fun h h' => ?_)
    have hk : k = k' := (rank_inj ha.1 hb.1).1 (int_zero.1 h)
    have hk' : k' = k2 := (rank_inj hb.1 hc.1).1 (int_zero.1 h')
    subst hk hk'
    refine Tri.or ?_ (fun _ _ => (int_tri _ _ _).or (fun _ _ => (byC_tri _ _ _).or (fun _ _ => (cmpL_tri us us' us2 ha.2 hb.2 hc.2).or (fun _ _ => int_tri _ _ _))))
    split
    · exact int_tri _ _ _
    · intro _ _; exact ⟨by omega, by omega⟩
theorem cmpL_tri : ∀ a b c : List Tm, Tm.GoodL a → Tm.GoodL b → Tm.GoodL c → Tri (Tm.cmpL a b) (Tm.cmpL b c) (Tm.cmpL a c)
  | [], [], [], _, _, _ => by intro _ _; simp [Tm.cmpL]
  | [], [], _ :: _, _, _, _ => by intro _ _; simp [Tm.cmpL]
  | [], _ :: _, [], _, _, _ => by intro _ h2; simp [Tm.cmpL] at h2
  | [], _ :: _, _ :: _, _, _, _ => by intro _ _; simp [Tm.cmpL]
  | _ :: _, [], _, _, _, _ => by intro h1; simp [Tm.cmpL] at h1
  | _ :: _, _ :: _, [], _, _, _ => by intro _ h2; simp [Tm.cmpL] at h2
  | a :: us, b :: bs, c :: cs, ha, hb, hc => by
    simp only [Tm.GoodL] at ha hb hc
    rw [cmpL_cons, cmpL_cons, cmpL_cons]
    exact (cmp_tri a b c ha.1 hb.1 hc.1).or (fun _ _ => cmpL_tri us bs cs ha.2 hb.2 hc.2)
end

mutual
theorem good_of {B : Nat} {w : World} {c0 c1 c2 c3 : Value} : ∀ {t : Tm}, IsTm B w c0 c1 c2 c3 t → t.Good
  | .mk k n s us, h => by
    simp only [IsTm] at h
    obtain ⟨_, hk, _, _, _, _, a, cap, _, _, hr⟩ := h
    simp only [Tm.Good]
    refine ⟨hk.1, ?_⟩
    by_cases hne : us = []
    · subst hne; simp only [Tm.GoodL]
    · obtain ⟨b, off, _, _, hi⟩ := hr hne
      exact goodL_of hi
theorem goodL_of {B : Nat} {w : World} {b off : Nat} : ∀ {ts : List Tm}, IsTms B w b off ts → Tm.GoodL ts
  | [], _ => by simp only [Tm.GoodL]
  | t :: ts, h => by
    simp only [IsTms] at h
    obtain ⟨c0, c1, c2, c3, _, _, _, _, hi, hr⟩ := h
    simp only [Tm.GoodL]
    exact ⟨good_of hi, goodL_of hr⟩
end
end Go.Proofs.YtnobmffgchlijaaGreatDoor
