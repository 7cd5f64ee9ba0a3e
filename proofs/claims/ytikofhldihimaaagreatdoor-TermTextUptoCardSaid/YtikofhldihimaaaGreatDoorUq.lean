/- The text of a valid term can be read in one way only: plain mathematics. -/
import Derived.Test.YtikofhldihimaaaGreatDoorNw
namespace Go.Proofs.YtikofhldihimaaaGreatDoor
open Go.RowKit

/-! ### A reader -/
def opP (c : UInt8) : Bool := c == 42 || c == 47 || c == 92
def opS (c : UInt8) : Bool := c == 43 || c == 45
def nameT (l : List UInt8) : Tm := .mk (if symbolB ⟨l.toArray⟩ then 2 else 3) 0 ⟨l.toArray⟩ []
def dots : List UInt8 → Option (List UInt8)
  | a :: b :: r => if a = 46 ∧ b = 46 then some r else none
  | _ => none
/-- What stands behind a minus sign: a number's digits, or what has been read there. -/
def minusT (r : List UInt8) (q : Option (Tm × List UInt8)) : Option (Tm × List UInt8) := match r with
  | [] => none
  | d :: r' => if dig d then some (.mk 1 (-(dval ((d :: r').takeWhile dig) : Int)) ⟨#[]⟩ [], (d :: r').dropWhile dig)
    else match q with
      | some (x, q') => some (.mk 5 0 ⟨#[45]⟩ [x], q')
      | none => none
theorem minusT_none {r : List UInt8} {v : Tm × List UInt8} (h : minusT r none = some v) (q : Option (Tm × List UInt8)) : minusT r q = some v := by
  cases r with
  | nil => cases h
  | cons d r' =>
    unfold minusT at h ⊢
    by_cases h2 : dig d = true
    · simp only [h2, if_true] at h ⊢; exact h
    · simp only [h2] at h; cases h
mutual
def rdF : Nat → List UInt8 → Option (Tm × List UInt8)
  | 0, _ => none
  | _ + 1, [] => none
  | f + 1, c :: r =>
    if c = 45 then minusT r (rdF f r)
    else if c = 40 then (match rdI f r with
      | some (x, d :: q) => if d = 41 then some (x, q) else none
      | _ => none)
    else if dig c then some (.mk 1 (dval ((c :: r).takeWhile dig) : Int) ⟨#[]⟩ [], (c :: r).dropWhile dig)
    else if wrd c then (match (c :: r).dropWhile wrd with
      | d :: q => if d = 40 then (match rdA f q with
          | some (xs, q') => some (.mk 4 0 ⟨((c :: r).takeWhile wrd).toArray⟩ xs, q')
          | none => none)
        else some (nameT ((c :: r).takeWhile wrd), d :: q)
      | [] => some (nameT ((c :: r).takeWhile wrd), []))
    else none
def rdP : Nat → List UInt8 → Option (Tm × List UInt8)
  | 0, _ => none
  | f + 1, l => match rdF f l with
    | some (x, q) => rdPL f x q
    | none => none
def rdPL : Nat → Tm → List UInt8 → Option (Tm × List UInt8)
  | 0, _, _ => none
  | _ + 1, x, [] => some (x, [])
  | f + 1, x, c :: r => if opP c then (match rdF f r with
      | some (y, q) => rdPL f (.mk 5 0 ⟨#[c]⟩ [x, y]) q
      | none => none) else some (x, c :: r)
def rdS : Nat → List UInt8 → Option (Tm × List UInt8)
  | 0, _ => none
  | f + 1, l => match rdP f l with
    | some (x, q) => rdSL f x q
    | none => none
def rdSL : Nat → Tm → List UInt8 → Option (Tm × List UInt8)
  | 0, _, _ => none
  | _ + 1, x, [] => some (x, [])
  | f + 1, x, c :: r => if opS c then (match rdP f r with
      | some (y, q) => rdSL f (.mk 5 0 ⟨#[c]⟩ [x, y]) q
      | none => none) else some (x, c :: r)
def rdI : Nat → List UInt8 → Option (Tm × List UInt8)
  | 0, _ => none
  | f + 1, l => match rdS f l with
    | some (x, q) => (match dots q with
      | some q' => (match rdS f q' with
        | some (y, q'') => some (.mk 6 0 ⟨#[]⟩ [x, y], q'')
        | none => none)
      | none => some (x, q))
    | none => none
def rdA : Nat → List UInt8 → Option (List Tm × List UInt8)
  | 0, _ => none
  | f + 1, l => match rdI f l with
    | some (x, d :: q) => if d = 44 then (match rdA f q with
        | some (xs, q') => some (x :: xs, q')
        | none => none)
      else if d = 41 then some ([x], q) else none
    | _ => none
end

/-- More fuel does no harm. -/
structure Mono (f : Nat) : Prop where
  F : ∀ l v, rdF f l = some v → rdF (f + 1) l = some v
  P : ∀ l v, rdP f l = some v → rdP (f + 1) l = some v
  PL : ∀ x l v, rdPL f x l = some v → rdPL (f + 1) x l = some v
  S : ∀ l v, rdS f l = some v → rdS (f + 1) l = some v
  SL : ∀ x l v, rdSL f x l = some v → rdSL (f + 1) x l = some v
  I : ∀ l v, rdI f l = some v → rdI (f + 1) l = some v
  A : ∀ l v, rdA f l = some v → rdA (f + 1) l = some v
theorem mono : ∀ f, Mono f
  | 0 => ⟨fun l v h => by simp [rdF] at h, fun l v h => by simp [rdP] at h, fun x l v h => by simp [rdPL] at h, fun l v h => by simp [rdS] at h, fun x l v h => by simp [rdSL] at h, fun l v h => by simp [rdI] at h, fun l v h => by simp [rdA] at h⟩
  | f + 1 => by
    have ih := mono f
    refine ⟨fun l v h => ?_, fun l v h => ?_, fun x l v h => ?_, fun l v h => ?_, fun x l v h => ?_, fun l v h => ?_, fun l v h => ?_⟩
    · cases l with
      | nil => simp [rdF] at h
      | cons c r =>
        rw [rdF] at h ⊢
        by_cases h1 : c = 45
        · rw [if_pos h1] at h ⊢
          cases hF : rdF f r with
          | none => rw [hF] at h; exact minusT_none h _
          | some p => rw [hF] at h; rw [ih.F _ _ hF]; exact h
        · rw [if_neg h1] at h ⊢
          by_cases h2 : c = 40
          · rw [if_pos h2] at h ⊢
            cases hI : rdI f r with
            | none => rw [hI] at h; cases h
            | some p => rw [hI] at h; rw [ih.I _ _ hI]; exact h
          · rw [if_neg h2] at h ⊢
            by_cases h3 : dig c = true
            · rw [if_pos h3] at h ⊢; exact h
            · rw [if_neg h3] at h ⊢
              by_cases h4 : wrd c = true
              · rw [if_pos h4] at h ⊢
                cases hd : (c :: r).dropWhile wrd with
                | nil => rw [hd] at h; exact h
                | cons d q =>
                  rw [hd] at h
                  simp only [] at h ⊢
                  by_cases h5 : d = 40
                  · rw [if_pos h5] at h ⊢
                    cases hA : rdA f q with
                    | none => rw [hA] at h; cases h
                    | some p => rw [hA] at h; rw [ih.A _ _ hA]; exact h
                  · rw [if_neg h5] at h ⊢; exact h
              · rw [if_neg h4] at h; cases h
    · rw [rdP] at h ⊢
      cases hF : rdF f l with
      | none => rw [hF] at h; cases h
      | some p => rw [hF] at h; rw [ih.F _ _ hF]; exact ih.PL _ _ _ h
    · cases l with
      | nil => rw [rdPL] at h ⊢; exact h
      | cons c r =>
        rw [rdPL] at h ⊢
        by_cases h1 : opP c = true
        · rw [if_pos h1] at h ⊢
          cases hF : rdF f r with
          | none => rw [hF] at h; cases h
          | some p => rw [hF] at h; rw [ih.F _ _ hF]; exact ih.PL _ _ _ h
        · rw [if_neg h1] at h ⊢; exact h
    · rw [rdS] at h ⊢
      cases hF : rdP f l with
      | none => rw [hF] at h; cases h
      | some p => rw [hF] at h; rw [ih.P _ _ hF]; exact ih.SL _ _ _ h
    · cases l with
      | nil => rw [rdSL] at h ⊢; exact h
      | cons c r =>
        rw [rdSL] at h ⊢
        by_cases h1 : opS c = true
        · rw [if_pos h1] at h ⊢
          cases hF : rdP f r with
          | none => rw [hF] at h; cases h
          | some p => rw [hF] at h; rw [ih.P _ _ hF]; exact ih.SL _ _ _ h
        · rw [if_neg h1] at h ⊢; exact h
    · rw [rdI] at h ⊢
      cases hS : rdS f l with
      | none => rw [hS] at h; cases h
      | some p =>
        rw [hS] at h; rw [ih.S _ _ hS]
        simp only [] at h ⊢
        cases hd : dots p.2 with
        | none => rw [hd] at h; exact h
        | some q =>
          rw [hd] at h
          simp only [] at h ⊢
          cases hS2 : rdS f q with
          | none => rw [hS2] at h; cases h
          | some p2 => rw [hS2] at h; rw [ih.S _ _ hS2]; exact h
    · rw [rdA] at h ⊢
      cases hI : rdI f l with
      | none => rw [hI] at h; cases h
      | some p =>
        obtain ⟨x, q⟩ := p
        rw [hI] at h; rw [ih.I _ _ hI]
        cases q with
        | nil => cases h
        | cons d q =>
          simp only [] at h ⊢
          by_cases h1 : d = 44
          · rw [if_pos h1] at h ⊢
            cases hA : rdA f q with
            | none => rw [hA] at h; cases h
            | some p2 => rw [hA] at h; rw [ih.A _ _ hA]; exact h
          · rw [if_neg h1] at h ⊢; exact h
theorem up_F {f : Nat} {l : List UInt8} {v} (h : rdF f l = some v) : ∀ d, rdF (f + d) l = some v
  | 0 => h
  | d + 1 => (mono (f + d)).F _ _ (up_F h d)
theorem up_P {f : Nat} {l : List UInt8} {v} (h : rdP f l = some v) : ∀ d, rdP (f + d) l = some v
  | 0 => h
  | d + 1 => (mono (f + d)).P _ _ (up_P h d)
theorem up_PL {f : Nat} {x : Tm} {l : List UInt8} {v} (h : rdPL f x l = some v) : ∀ d, rdPL (f + d) x l = some v
  | 0 => h
  | d + 1 => (mono (f + d)).PL _ _ _ (up_PL h d)
theorem up_S {f : Nat} {l : List UInt8} {v} (h : rdS f l = some v) : ∀ d, rdS (f + d) l = some v
  | 0 => h
  | d + 1 => (mono (f + d)).S _ _ (up_S h d)
theorem up_SL {f : Nat} {x : Tm} {l : List UInt8} {v} (h : rdSL f x l = some v) : ∀ d, rdSL (f + d) x l = some v
  | 0 => h
  | d + 1 => (mono (f + d)).SL _ _ _ (up_SL h d)
theorem up_I {f : Nat} {l : List UInt8} {v} (h : rdI f l = some v) : ∀ d, rdI (f + d) l = some v
  | 0 => h
  | d + 1 => (mono (f + d)).I _ _ (up_I h d)
theorem up_A {f : Nat} {l : List UInt8} {v} (h : rdA f l = some v) : ∀ d, rdA (f + d) l = some v
  | 0 => h
  | d + 1 => (mono (f + d)).A _ _ (up_A h d)

/-! ### What may follow -/
def stopC (c : UInt8) : Bool := c == 43 || c == 45 || c == 42 || c == 47 || c == 92 || c == 41 || c == 44 || c == 46
def stopS (c : UInt8) : Bool := c == 43 || c == 45 || c == 41 || c == 44 || c == 46
def stopI (c : UInt8) : Bool := c == 41 || c == 44
def Follow (p : UInt8 → Bool) (l : List UInt8) : Prop := l = [] ∨ ∃ c r, l = c :: r ∧ p c = true
theorem Follow.imp {p q : UInt8 → Bool} (h : ∀ c, p c = true → q c = true) {l : List UInt8} (hl : Follow p l) : Follow q l := by
  rcases hl with h1 | ⟨c, r, h1, h2⟩
  · exact .inl h1
  · exact .inr ⟨c, r, h1, h c h2⟩
theorem stop_cases {c : UInt8} (h : stopC c = true) : c = 43 ∨ c = 45 ∨ c = 42 ∨ c = 47 ∨ c = 92 ∨ c = 41 ∨ c = 44 ∨ c = 46 := by
  unfold stopC at h
  simp only [Bool.or_eq_true, beq_iff_eq] at h
  rcases h with ((((((h | h) | h) | h) | h) | h) | h) | h
  · exact .inl h
  · exact .inr (.inl h)
  · exact .inr (.inr (.inl h))
  · exact .inr (.inr (.inr (.inl h)))
  · exact .inr (.inr (.inr (.inr (.inl h))))
  · exact .inr (.inr (.inr (.inr (.inr (.inl h)))))
  · exact .inr (.inr (.inr (.inr (.inr (.inr (.inl h))))))
  · exact .inr (.inr (.inr (.inr (.inr (.inr (.inr h))))))
theorem stop_wrd {c : UInt8} (h : stopC c = true) : wrd c = false ∧ dig c = false ∧ c ≠ 40 := by
  rcases stop_cases h with rfl | rfl | rfl | rfl | rfl | rfl | rfl | rfl <;> exact ⟨by decide +kernel, by decide +kernel, by decide⟩
theorem stopS_C (c : UInt8) (h : stopS c = true) : stopC c = true := by
  unfold stopS at h
  simp only [Bool.or_eq_true, beq_iff_eq] at h
  rcases h with (((rfl | rfl) | rfl) | rfl) | rfl <;> rfl
theorem stopS_P (c : UInt8) (h : stopS c = true) : opP c = false := by
  unfold stopS at h
  simp only [Bool.or_eq_true, beq_iff_eq] at h
  rcases h with (((rfl | rfl) | rfl) | rfl) | rfl <;> rfl
theorem stopI_S (c : UInt8) (h : stopI c = true) : stopS c = true ∧ opS c = false := by
  unfold stopI at h
  simp only [Bool.or_eq_true, beq_iff_eq] at h
  rcases h with rfl | rfl <;> exact ⟨rfl, rfl⟩
theorem follow_run {p : UInt8 → Bool} (hp : ∀ c, stopC c = true → p c = false) {rest : List UInt8} (h : Follow stopC rest) : rest = [] ∨ ∃ c r, rest = c :: r ∧ p c = false := by
  rcases h with h | ⟨c, r, h1, h2⟩
  · exact .inl h
  · exact .inr ⟨c, r, h1, hp c h2⟩
theorem stay_P {x : Tm} {rest : List UInt8} (h : Follow stopS rest) : rdPL 1 x rest = some (x, rest) := by
  rcases h with rfl | ⟨c, r, rfl, h⟩
  · rfl
  · rw [rdPL, if_neg (by rw [stopS_P c h]; simp)]
theorem stay_S {x : Tm} {c : UInt8} {r : List UInt8} (h : opS c = false) : rdSL 1 x (c :: r) = some (x, c :: r) := by
  rw [rdSL, if_neg (by rw [h]; simp)]
theorem stay_SI {x : Tm} {rest : List UInt8} (h : Follow stopI rest) : rdSL 1 x rest = some (x, rest) := by
  rcases h with rfl | ⟨c, r, rfl, h⟩
  · rfl
  · exact stay_S (stopI_S c h).2
theorem no_dots {rest : List UInt8} (h : Follow stopI rest) : dots rest = none := by
  rcases h with rfl | ⟨c, r, rfl, h⟩
  · rfl
  · cases r with
    | nil => rfl
    | cons d q =>
      have hc : ¬ (c = 46 ∧ d = 46) := by
        rintro ⟨rfl, _⟩
        cases h
      simp only [dots, hc, if_false]
end Go.Proofs.YtikofhldihimaaaGreatDoor
