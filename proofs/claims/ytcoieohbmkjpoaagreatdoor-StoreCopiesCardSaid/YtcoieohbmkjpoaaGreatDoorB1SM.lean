/- Two stores side by side. -/
import Derived.Test.YtcoieohbmkjpoaaGreatDoorB1SD
import Derived.Test.YtcoieohbmkjpoaaGreatDoorB1SK
import Derived.Test.YtcoieohbmkjpoaaGreatDoorB1SL
namespace Go.Proofs.YtcoieohbmkjpoaaGreatDoor
open Go.RowKit Go.Shelf Go.Maps

theorem nodup_sub : ∀ (A M : List Ato), A.Nodup → (∀ x ∈ A, x ∈ M) → A.length ≤ M.length
  | [], M, _, _ => Nat.zero_le _
  | a :: l, M, hn, hs => by
    haveI : DecidableEq Ato := fun a b => Classical.propDecidable (a = b)
    have ha := hs a (by simp)
    rw [List.nodup_cons] at hn
    have h := nodup_sub l (M.erase a) hn.2 (fun x hx => (List.mem_erase_of_ne (fun e => hn.1 (by rw [← e]; exact hx))).2 (hs x (by simp [hx])))
    rw [List.length_erase_of_mem ha] at h
    have : 0 < M.length := List.length_pos_of_mem ha
    simp only [List.length_cons]
    omega
theorem nodup_len {A M : List Ato} (hA : A.Nodup) (hM : M.Nodup) (h : ∀ x, x ∈ A ↔ x ∈ M) : A.length = M.length :=
  Nat.le_antisymm (nodup_sub A M hA fun x hx => (h x).1 hx) (nodup_sub M A hM fun x hx => (h x).2 hx)
theorem addL_iff {A : List Ato} {y : Ato} (hl : A.length < 2000) (x : Ato) : x ∈ addL A y ↔ x ∈ A ∨ (validA y = true ∧ x = y) := by
  unfold addL
  by_cases hv : validA y = true
  · by_cases hy : y ∈ A
    · rw [if_neg (fun h => h.2.1 hy)]
      exact ⟨Or.inl, fun h => h.elim id (fun h => h.2 ▸ hy)⟩
    · rw [if_pos ⟨hv, hy, hl⟩]
      simp [hv]
  · rw [if_neg (fun h => hv h.1)]
    simp [hv]
theorem addL_len (A : List Ato) (y : Ato) : (addL A y).length ≤ A.length + 1 := by
  unfold addL
  split <;> simp
theorem StI.relabel_nil {w : World} {B S : Nat} {lab lab' : Lab} (h : StI w B lab S []) (hk : ∀ b, lab b ≠ .free → lab' b = lab b) (hn : ∀ b, lab' b ≠ .free → B ≤ b ∧ b < w.heap.size) : StI w B lab' S [] := by
  obtain ⟨lv, m1, m2, m3, n3, h0, hS, l1, l2, l3, ⟨xs, ho, hf, hb⟩, p2, ⟨D2, val2, q1, q2, q3⟩, ⟨D3, val3, r1, r2, r3⟩, p5⟩ := h.mem
  have tr : ∀ {b : Nat} {l : Lbl}, lab b = l → l ≠ .free → lab' b = l := fun {b l} e hl => (hk b (by rw [e]; exact hl)).trans e
  exact ⟨h.tab, h.base, hn, h.good, h.len, lv, m1, m2, m3, n3, h0, tr hS (by intro e; cases e), tr l1 (by intro e; cases e), tr l2 (by intro e; cases e), tr l3 (by intro e; cases e),
    ⟨xs, ho, hf, fun b e => tr (hb b e) (by intro e; cases e)⟩, p2, ⟨D2, val2, q1, q2, fun g hg => ⟨(q3 g hg).1, (q3 g hg).2.1, fun b e => tr ((q3 g hg).2.2 b e) (by intro e; cases e)⟩⟩,
    ⟨D3, val3, r1, r2, fun g hg => ⟨(r3 g hg).1, (r3 g hg).2.1, fun b e => tr ((r3 g hg).2.2 b e) (by intro e; cases e)⟩⟩, p5⟩
/-- Two stores that do not touch each other's memory. -/
structure TwoS (w : World) (B : Nat) (l1 l2 : Lab) (S T : Nat) (A M : List Ato) : Prop where
  s : StI w B l1 S A
  t : StI w B l2 T M
  st : ∀ b, Own (l1 b) → l2 b = .oth
  ts : ∀ b, Own (l2 b) → l1 b = .oth
  hB : B ≤ w.heap.size
theorem TwoS.swap {w : World} {B S T : Nat} {l1 l2 : Lab} {A M : List Ato} (h : TwoS w B l1 l2 S T A M) : TwoS w B l2 l1 T S M A := ⟨h.t, h.s, h.ts, h.st, h.hB⟩
theorem TwoS.below {w w' : World} {B S T : Nat} {l1 l2 : Lab} {A M : List Ato} (h : TwoS w B l1 l2 S T A M) (hb : Below w.heap.size w w') : TwoS w' B l1 l2 S T A M := ⟨h.s.below hb, h.t.below hb, h.st, h.ts, Nat.le_trans h.hB hb.size⟩
open Classical in
theorem TwoS.stepS {w w' : World} {B S T : Nat} {l1 l2 l1' : Lab} {A M A' : List Ato} (h : TwoS w B l1 l2 S T A M) (hI : StI w' B l1' S A') (hl : ∀ b, b < w.heap.size → l1' b = l1 b) (hs : Stp l1 Own w w') : ∃ l2', TwoS w' B l1' l2' S T A' M := by
  refine ⟨fun b => if b < w.heap.size then l2 b else if l1' b = .free then .free else .oth, hI, ?_, ?_, ?_, Nat.le_trans h.hB hs.size⟩
  · refine h.t.other h.hB ⟨hs.os, hs.tape, hs.output, hs.size, fun b hb hX => hs.block b hb (fun ho => hX (h.st b ho))⟩ (fun b hb => if_pos hb) (fun b hb => ?_)
    by_cases hlt : b < w.heap.size
    · rw [if_pos hlt] at hb
      exact ⟨(h.t.mine b hb).1, Nat.lt_of_lt_of_le hlt hs.size⟩
    · rw [if_neg hlt] at hb
      by_cases hf : l1' b = .free
      · rw [if_pos hf] at hb; exact absurd rfl hb
      · exact hI.mine b hf
  · intro b hb
    by_cases hlt : b < w.heap.size
    · rw [if_pos hlt]; rw [hl b hlt] at hb; exact h.st b hb
    · rw [if_neg hlt, if_neg hb.1]
  · intro b hb
    by_cases hlt : b < w.heap.size
    · rw [if_pos hlt] at hb; rw [hl b hlt]; exact h.ts b hb
    · rw [if_neg hlt] at hb
      by_cases hf : l1' b = .free
      · rw [if_pos hf] at hb; exact absurd rfl hb.1
      · rw [if_neg hf] at hb; exact absurd rfl hb.2
open Classical in
theorem TwoS.start {w5 w6 : World} {B S T : Nat} {lab1 lab2 : Lab} (hB : B ≤ w5.heap.size) (hS : StI w5 B lab1 S []) (hT : StI w6 w5.heap.size lab2 T []) (hb : Below w5.heap.size w5 w6) : ∃ l1 l2, TwoS w6 B l1 l2 S T [] [] := by
  have hS6 := hS.below hb
  have hT6 := hT.lower hB hS.base
  have d1 : ∀ b, lab1 b ≠ .free → lab2 b = .free := fun b h => by
    apply Classical.byContradiction
    intro h2
    have := (hS.mine b h).2
    have := (hT.mine b h2).1
    omega
  have d2 : ∀ b, lab2 b ≠ .free → lab1 b = .free := fun b h => by
    apply Classical.byContradiction
    intro h2
    exact h (d1 b h2)
  refine ⟨fun b => if lab2 b = .free then lab1 b else .oth, fun b => if lab1 b = .free then lab2 b else .oth, hS6.relabel_nil (fun b h => if_pos (d1 b h)) (fun b h => ?_), hT6.relabel_nil (fun b h => if_pos (d2 b h)) (fun b h => ?_), fun b h => ?_, fun b h => ?_, Nat.le_trans hB hb.size⟩
  · by_cases e : lab2 b = .free
    · rw [if_pos e] at h; exact hS6.mine b h
    · exact hT6.mine b e
  · by_cases e : lab1 b = .free
    · rw [if_pos e] at h; exact hT6.mine b h
    · exact hS6.mine b e
  · by_cases e : lab2 b = .free
    · rw [if_pos e] at h; rw [if_neg h.1]
    · rw [if_neg e] at h; exact absurd rfl h.2
  · by_cases e : lab1 b = .free
    · rw [if_pos e] at h; rw [if_neg h.1]
    · rw [if_neg e] at h; exact absurd rfl h.2
/-- What the two loops keep. -/
def CopJ (L A M : List Ato) (j : Nat) : Prop := A.Nodup ∧ M.Nodup ∧ A.length ≤ j ∧ M.length ≤ j ∧ (∀ x, x ∈ A ↔ validA x = true ∧ x ∈ L.take j) ∧ ∀ x, x ∈ M ↔ validA x = true ∧ x ∈ L.drop (L.length - j)
theorem CopJ.start (L : List Ato) : CopJ L [] [] 0 := ⟨List.nodup_nil, List.nodup_nil, Nat.le_refl _, Nat.le_refl _, by simp, by simp⟩
theorem CopJ.next {L A M : List Ato} {j : Nat} (h : CopJ L A M j) (hj : j < L.length) (hl : L.length ≤ 150) : CopJ L (addL A L[j]) (addL M (L[L.length - 1 - j]'(by omega))) (j + 1) := by
  obtain ⟨h1, h2, h3, h4, h5, h6⟩ := h
  refine ⟨addL_nodup h1, addL_nodup h2, ?_, ?_, fun x => ?_, fun x => ?_⟩
  · have := addL_len A L[j]; omega
  · have := addL_len M (L[L.length - 1 - j]'(by omega)); omega
  · rw [addL_iff (by omega), h5, List.take_succ_eq_append_getElem hj, List.mem_append, List.mem_singleton]
    constructor
    · rintro (⟨a, b⟩ | ⟨a, rfl⟩)
      · exact ⟨a, Or.inl b⟩
      · exact ⟨a, Or.inr rfl⟩
    · rintro ⟨a, b | rfl⟩
      · exact Or.inl ⟨a, b⟩
      · exact Or.inr ⟨a, rfl⟩
  · have e : L.length - (j + 1) = L.length - 1 - j := by omega
    have hd : L.drop (L.length - (j + 1)) = (L[L.length - 1 - j]'(by omega)) :: L.drop (L.length - j) := by
      rw [List.drop_eq_getElem_cons (by omega)]
      congr 1
      · congr 1
      · congr 1; omega
    rw [addL_iff (by omega), h6, hd, List.mem_cons]
    constructor
    · rintro (⟨a, b⟩ | ⟨a, rfl⟩)
      · exact ⟨a, Or.inr b⟩
      · exact ⟨a, Or.inl rfl⟩
    · rintro ⟨a, rfl | b⟩
      · exact Or.inr ⟨a, rfl⟩
      · exact Or.inl ⟨a, b⟩
theorem CopJ.done {L A M : List Ato} (h : CopJ L A M L.length) : A.length = M.length ∧ (∀ x ∈ A, x ∈ M) ∧ ∀ x ∈ M, x ∈ A := by
  obtain ⟨h1, h2, h3, h4, h5, h6⟩ := h
  rw [List.take_length] at h5
  rw [Nat.sub_self, List.drop_zero] at h6
  have hm : ∀ x, x ∈ A ↔ x ∈ M := fun x => (h5 x).trans (h6 x).symm
  exact ⟨nodup_len h1 h2 hm, fun x hx => (hm x).1 hx, fun x hx => (hm x).2 hx⟩
end Go.Proofs.YtcoieohbmkjpoaaGreatDoor
