/- How long a text is, and that it is not empty. -/
import Derived.Test.YtikofhldihimaaaGreatDoorUs
namespace Go.Proofs.YtikofhldihimaaaGreatDoor
open Go.RowKit

mutual
/-- Terms and letters of names, together. -/
def Tm.wt : Tm → Nat
  | .mk _ _ s us => 1 + s.size + Tm.wtL us
def Tm.wtL : List Tm → Nat
  | [] => 0
  | t :: ts => Tm.wt t + Tm.wtL ts
end

theorem textF_len : ∀ (us : List Tm) (sep : UInt8), (∀ t ∈ us, t.text.length + 3 ≤ 24 * t.wt) → (Tm.textF sep us).length ≤ 24 * Tm.wtL us
  | [], _, _ => by simp [Tm.textF]
  | t :: ts, sep, h => by
    have h1 := h t (List.mem_cons_self ..)
    have h2 := textF_len ts 44 (fun x hx => h x (List.mem_cons_of_mem _ hx))
    simp only [Tm.textF, Tm.wtL, List.length_cons, List.length_append]
    omega

theorem textO_len (o : Int) (len : Nat) (sign : List UInt8) : ∀ (us : List Tm) (i : Nat), (∀ t ∈ us, t.text.length + 3 ≤ 24 * t.wt) →
    (Tm.textO o len sign i us).length ≤ 24 * Tm.wtL us + (if i < len then sign.length else 0)
  | [], i, _ => by simp [Tm.textO]
  | t :: ts, i, h => by
    have h1 := h t (List.mem_cons_self ..)
    have h2 := textO_len o len sign ts (i + 1) (fun x hx => h x (List.mem_cons_of_mem _ hx))
    simp only [Tm.textO, Tm.wtL, List.length_append]
    have h3 : (if enclosedB o i t then 40 :: (t.text ++ [41]) else t.text).length ≤ t.text.length + 2 := by
      split <;> simp
    by_cases hi : i + 1 = len
    · rw [if_pos hi]
      rw [if_neg (by omega)] at h2
      rw [if_pos (show i < len by omega)]
      omega
    · rw [if_neg hi]
      simp only [List.length_nil]
      by_cases hj : i < len
      · rw [if_pos (show i + 1 < len by omega)] at h2
        rw [if_pos hj]
        omega
      · rw [if_neg (by omega)] at h2
        rw [if_neg hj]
        omega

theorem size_data (s : ByteArray) : s.data.toList.length = s.size := by
  cases s; rfl

theorem text_len : ∀ t : Tm, ∀ (B : Nat) (w : World) (c0 c1 c2 c3 : Value), IsTm B w c0 c1 c2 c3 t → t.text.length + 3 ≤ 24 * t.wt := by
  intro t
  induction t using Tm.ind with
  | h k n s us ih =>
    intro B w c0 c1 c2 c3 ht
    simp only [IsTm] at ht
    obtain ⟨_, _, _, hn, _, _, a, cap, _, hl, hr⟩ := ht
    have ih' : ∀ t ∈ us, t.text.length + 3 ≤ 24 * t.wt := by
      intro t hm
      obtain ⟨b, off, _, _, hi⟩ := hr (List.ne_nil_of_mem hm)
      obtain ⟨i, hil, rfl⟩ := List.mem_iff_getElem.1 hm
      obtain ⟨d0, d1, d2, d3, _, _, _, _, ht⟩ := hi.at i hil
      exact ih _ (List.getElem_mem hil) B w d0 d1 d2 d3 ht
    have hs := size_data s
    unfold I64 Lit.wf at hn
    simp only [Bool.and_eq_true, decide_eq_true_eq] at hn
    have hI := Lib.itoa_length_le n hn.1 hn.2
    have hF := textF_len us 40 ih'
    have hO := textO_len (strengthI 5 s us.length) us.length s.data.toList us 0 ih'
    have hO6 := textO_len (strengthI 6 s us.length) us.length [46, 46] us 0 ih'
    simp only [Tm.text, Tm.wt]
    split
    · omega
    split
    · simp only [List.length_append, List.length_cons, List.length_nil]; omega
    split
    · split at hO <;> omega
    split
    · simp only [List.length_cons, List.length_nil] at hO6
      split at hO6 <;> omega
    · omega

theorem text_nonempty {t : Tm} (h : t.validB = true) : t.text ≠ [] := by
  intro e
  obtain ⟨g, hg⟩ := (reads t (rq_of 1 t h)).I [] (.inl rfl)
  rw [e] at hg
  cases g with
  | zero => simp [rdI] at hg
  | succ g =>
    simp only [List.append_nil] at hg
    cases g with
    | zero => simp [rdI, rdS] at hg
    | succ g =>
      cases g with
      | zero => simp [rdI, rdS, rdP] at hg
      | succ g =>
        cases g with
        | zero => simp [rdI, rdS, rdP, rdF] at hg
        | succ g => simp [rdI, rdS, rdP, rdF] at hg
end Go.Proofs.YtikofhldihimaaaGreatDoor
