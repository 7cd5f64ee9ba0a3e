/- Lexing what Join makes of a source's tokens; where the tokens lie: plain mathematics. -/
import Derived.Test.YtpnkmpmgadciaaaDoorLm
import Derived.Test.YtpnkmpmgadciaaaDoorLa
namespace Go.Proofs.YtpnkmpmgadciaaaDoor
open Go.RowKit

theorem sk_head {l : List UInt8} {c : UInt8} {r : List UInt8} (h : sk false l = c :: r) : headP (inB 17) (c :: r) = false := by
  have h2 := sk_sk l false
  rw [h] at h2
  have h1 : ¬ inB 1 c.toNat = true := fun hh => by
    have e : sk false (c :: r) = sk false r := by (conv => lhs; unfold sk); rw [if_pos hh]
    rw [e] at h2
    have := (sk_suffix r false).length_le
    rw [h2] at this; simp at this; omega
  have h3 : ¬ inB 16 c.toNat = true := fun hh => by
    have e : sk false (c :: r) = sk true r := by (conv => lhs; unfold sk); rw [if_neg h1, if_pos hh]
    rw [e] at h2
    have := (sk_suffix r true).length_le
    rw [h2] at this; simp at this; omega
  show inB 17 c.toNat = false
  cases hh : inB 17 c.toNat
  · rfl
  · rcases cls_in hh rfl with ⟨h4, _⟩ | ⟨_, h4⟩
    · exact absurd h4 h1
    · exact absurd h4 h3

theorem tw_cons (p : Int → Bool) (c : UInt8) (r : List UInt8) : twN p (c :: r) = if p c.toNat then twN p r + 1 else 0 := by
  unfold twN; rw [List.takeWhile_cons]; split <;> simp
theorem tw_take (p : Int → Bool) : ∀ (l : List UInt8) (n : Nat), twN p l ≤ n → twN p (l.take n) = twN p l
  | [], n, _ => by simp
  | c :: r, n, h => by
    rw [tw_cons] at h ⊢
    cases hp : p c.toNat
    · cases n with
      | zero => simp [twN]
      | succ n => rw [List.take_succ_cons, tw_cons, hp]; rfl
    · rw [hp] at h
      simp only [if_true] at h
      cases n with
      | zero => omega
      | succ n => rw [List.take_succ_cons, tw_cons, hp, tw_take p r n (by omega)]
theorem head_take {p : Int → Bool} {l : List UInt8} {n : Nat} (h : 0 < n) : headP p (l.take n) = headP p l := by
  cases l with
  | nil => simp
  | cons c r => cases n with
    | zero => omega
    | succ n => rfl
theorem signL_single (c : UInt8) : signL [c] = if oneL.contains c then 1 else 0 := by
  unfold signL
  have : ¬ twoB (([c] : List UInt8).take 2) = true := by unfold twoB; simp
  rw [if_neg this]
theorem signL_take (l : List UInt8) (h : 0 < signL l) : signL (l.take (signL l)) = signL l := by
  by_cases h2 : twoB (l.take 2) = true
  · have e : signL l = 2 := by unfold signL; rw [if_pos h2]
    rw [e]
    unfold signL
    rw [List.take_take, Nat.min_self, if_pos h2]
  · cases l with
    | nil => revert h; decide +kernel
    | cons c r =>
      have e : signL (c :: r) = if oneL.contains c then 1 else 0 := by unfold signL; rw [if_neg h2]
      by_cases h3 : oneL.contains c = true
      · rw [e, if_pos h3]
        show signL [c] = 1
        rw [signL_single, if_pos h3]
      · rw [e, if_neg h3] at h; omega
/-- A token's text is a token by itself. -/
theorem tLen_take {m : List UInt8} (h : 0 < tLen m) : tLen (m.take (tLen m)) = tLen m := by
  have hh := fun (p : Int → Bool) => head_take (p := p) (l := m) h
  cases h10 : headP (inB 10) m
  · cases h4 : headP (inB 4) m
    · cases h32 : headP (inB 32) m
      · have e : tLen m = signL m := by unfold tLen; rw [h10, h4, h32]; rfl
        rw [e] at h ⊢
        have hh2 := fun (p : Int → Bool) => head_take (p := p) (l := m) h
        unfold tLen
        rw [hh2, hh2, hh2, h10, h4, h32]
        exact signL_take m h
      · have e : tLen m = 1 + twN (inB 2) (m.drop 1) := by unfold tLen; rw [h10, h4, h32]; rfl
        rw [e] at h ⊢
        have hh2 := fun (p : Int → Bool) => head_take (p := p) (l := m) h
        unfold tLen
        rw [hh2, hh2, hh2, h10, h4, h32]
        show 1 + twN (inB 2) ((m.take (1 + twN (inB 2) (m.drop 1))).drop 1) = _
        rw [List.drop_take, Nat.add_sub_cancel_left, tw_take _ _ _ (Nat.le_refl _)]
    · have e : tLen m = twN (inB 4) m := by unfold tLen; rw [h10, h4]; rfl
      rw [e] at h ⊢
      have hh2 := fun (p : Int → Bool) => head_take (p := p) (l := m) h
      unfold tLen
      rw [hh2, hh2, h10, h4]
      exact tw_take _ _ _ (Nat.le_refl _)
  · have e : tLen m = twN (inB 14) m := by unfold tLen; rw [h10]; rfl
    rw [e] at h ⊢
    have hh2 := fun (p : Int → Bool) => head_take (p := p) (l := m) h
    unfold tLen
    rw [hh2, h10]
    exact tw_take _ _ _ (Nat.le_refl _)
theorem tText_take {m : List UInt8} (h : 0 < tLen m) : tText (m.take (tLen m)) = tText m := by
  unfold tText; rw [tLen_take h, List.take_take, Nat.min_self]
theorem tK_take {m : List UInt8} (h : 0 < tLen m) : tK (m.take (tLen m)) = tK m := by
  unfold tK; rw [tText_take h, head_take h, head_take h, head_take h]
theorem tE_take {m : List UInt8} (h : 0 < tLen m) : tE (m.take (tLen m)) = tE m := by
  unfold tE; rw [tText_take h, head_take h, head_take h, head_take h]

/-- Where the tokens of a list lie: texts joined by single spaces lex to the same kinds and texts, without a fault. -/
theorem lexL_space (f : Nat) (r : List UInt8) (a : Nat) (h : r.length < f) : lexL f (32 :: r) a = lexL f r (a + 1) := by
  cases f with
  | zero => omega
  | succ f =>
    have e : sk false (32 :: r) = sk false r := by (conv => lhs; unfold sk); rw [if_pos (by decide +kernel)]
    unfold lexL
    rw [e]
    cases hsk : sk false r with
    | nil => rfl
    | cons c q =>
      have hs := (sk_suffix r false).length_le
      rw [hsk] at hs
      simp only []
      have e2 : a + ((32 :: r).length - (c :: q).length) = a + 1 + (r.length - (c :: q).length) := by simp only [List.length_cons] at hs ⊢; omega
      rw [e2]

/-- A good token: its text, with whatever ends it behind, is that token. -/
structure GoodT (x : Tk) : Prop where
  pos : x.t.data.toList ≠ []
  head : headP (inB 17) x.t.data.toList = false
  len : tLen x.t.data.toList = x.t.data.toList.length
  k : tK x.t.data.toList = x.k
  e : tE x.t.data.toList = 0
theorem lexL_good : ∀ (f : Nat) (l : List UInt8) (a : Nat), ∀ x ∈ lexL f l a, x.e = 0 → GoodT x
  | 0, _, _, x, h, _ => by simp [lexL] at h
  | f + 1, l, a, x, h, he => by
    unfold lexL at h
    cases hsk : sk false l with
    | nil => rw [hsk] at h; simp at h
    | cons c r =>
      rw [hsk] at h
      simp only [] at h
      have key : tE (c :: r) = 0 → x = ⟨tK (c :: r), tText (c :: r), a + (l.length - (c :: r).length), tE (c :: r)⟩ → GoodT x := by
        rintro h0 rfl
        have hp := tLen_pos h0
        have ht : (tText (c :: r)).data.toList = (c :: r).take (tLen (c :: r)) := by unfold tText; simp
        refine ⟨?_, ?_, ?_, ?_, ?_⟩
        · rw [ht]; intro e
          have := congrArg List.length e
          rw [List.length_take] at this
          simp at this; omega
        · rw [ht, head_take hp]; exact sk_head hsk
        · rw [ht, tLen_take hp, List.length_take, Nat.min_eq_left (tLen_le _)]
        · rw [ht, tK_take hp]
        · rw [ht, tE_take hp]; exact h0
      split at h
      · rename_i h0
        rcases List.mem_cons.1 h with h | h
        · exact key h0 h
        · exact lexL_good f _ _ x h he
      · rename_i h0
        have h1 := List.mem_singleton.1 h
        rw [h1] at he
        exact absurd he h0

def joinT : List Tk → List UInt8
  | [] => []
  | [x] => x.t.data.toList
  | x :: y :: r => x.t.data.toList ++ 32 :: joinT (y :: r)
theorem lexL_one {x : Tk} (hg : GoodT x) (z : List UInt8) (hz : Ends z) (f a : Nat) : lexL (f + 1) (x.t.data.toList ++ z) a = ⟨x.k, x.t, a, 0⟩ :: lexL f z (a + x.t.data.toList.length) := by
  have hhead : headP (inB 17) (x.t.data.toList ++ z) = false := by rw [head_app hg.pos]; exact hg.head
  have hsk : sk false (x.t.data.toList ++ z) = x.t.data.toList ++ z := sk_id hhead
  obtain ⟨c, r, hcr⟩ : ∃ c r, x.t.data.toList ++ z = c :: r := by
    cases h : x.t.data.toList with
    | nil => exact absurd h hg.pos
    | cons c r => exact ⟨c, r ++ z, rfl⟩
  have e1 : tE (x.t.data.toList ++ z) = 0 := by rw [tE_app hz hg.pos]; exact hg.e
  have e2 : tK (x.t.data.toList ++ z) = x.k := by rw [tK_app hz hg.pos]; exact hg.k
  have e3 : tLen (x.t.data.toList ++ z) = x.t.data.toList.length := by rw [tLen_app hz hg.pos]; exact hg.len
  have e4 : tText (x.t.data.toList ++ z) = x.t := by
    unfold tText; rw [e3, List.take_append_of_le_length (Nat.le_refl _), List.take_length]
  rw [hcr] at hsk e1 e2 e3 e4 ⊢
  (conv => lhs; unfold lexL)
  rw [hsk]
  simp only []
  rw [if_pos e1, e2, e4, e1, e3, Nat.sub_self, Nat.add_zero, ← hcr, List.drop_left]
theorem lexL_join : ∀ (l : List Tk) (f a : Nat), (∀ x ∈ l, GoodT x) → (joinT l).length < f → Alike (lexL f (joinT l) a) l ∧ ∀ x ∈ lexL f (joinT l) a, x.e = 0
  | [], f, a, _, h => by
    cases f with
    | zero => omega
    | succ f => exact ⟨rfl, fun x hx => by simp [lexL, joinT, sk] at hx⟩
  | [x], f, a, hg, h => by
    cases f with
    | zero => omega
    | succ f =>
      have h1 := lexL_one (hg x (by simp)) [] (.inl rfl) f a
      rw [List.append_nil] at h1
      have h2 : ∀ b, lexL f [] b = [] := fun b => by cases f <;> simp [lexL, sk]
      rw [h2] at h1
      show Alike (lexL (f + 1) x.t.data.toList a) [x] ∧ ∀ y ∈ lexL (f + 1) x.t.data.toList a, y.e = 0
      rw [h1]
      exact ⟨rfl, fun y hy => by rw [List.mem_singleton.1 hy]⟩
  | x :: y :: r, f, a, hg, h => by
    cases f with
    | zero => omega
    | succ f =>
      have hl : (joinT (x :: y :: r)).length = x.t.data.toList.length + ((joinT (y :: r)).length + 1) := by
        show (x.t.data.toList ++ 32 :: joinT (y :: r)).length = _
        simp
      have hpos : 0 < x.t.data.toList.length := List.length_pos_iff.2 (hg x (by simp)).pos
      have h1 := lexL_one (hg x (by simp)) (32 :: joinT (y :: r)) (.inr ⟨32, _, rfl, .inr (.inl rfl)⟩) f a
      rw [lexL_space f _ _ (by omega)] at h1
      have ih := lexL_join (y :: r) f (a + x.t.data.toList.length + 1) (fun z hz => hg z (List.mem_cons_of_mem _ hz)) (by omega)
      show Alike (lexL (f + 1) (x.t.data.toList ++ 32 :: joinT (y :: r)) a) (x :: y :: r) ∧ ∀ z ∈ lexL (f + 1) (x.t.data.toList ++ 32 :: joinT (y :: r)) a, z.e = 0
      rw [h1]
      refine ⟨?_, ?_⟩
      · have := ih.1
        unfold Alike at this ⊢
        rw [List.map_cons, List.map_cons, this]
      · intro z hz
        rcases List.mem_cons.1 hz with rfl | hz
        · rfl
        · exact ih.2 z hz

/-! ### Where the tokens lie -/
/-- Blanks and comments only (true: within a comment). -/
def emp : Bool → List UInt8 → Bool
  | _, [] => true
  | c, b :: r => if b = 10 then emp false r else if c then emp true r else if b = 37 then emp true r else if b = 32 ∨ b = 9 ∨ b = 13 then emp false r else false
theorem blank_bytes {b : UInt8} (h : inB 1 b.toNat = true) : b = 10 ∨ b = 32 ∨ b = 9 ∨ b = 13 := by
  have : ∀ n : Nat, n < 256 → inB 1 (n : Int) = true → n = 10 ∨ n = 32 ∨ n = 9 ∨ n = 13 := by decide +kernel
  have h2 := this b.toNat (UInt8.toNat_lt b) h
  rcases h2 with h3 | h3 | h3 | h3
  · exact .inl (UInt8.toNat_inj.1 h3)
  · exact .inr (.inl (UInt8.toNat_inj.1 h3))
  · exact .inr (.inr (.inl (UInt8.toNat_inj.1 h3)))
  · exact .inr (.inr (.inr (UInt8.toNat_inj.1 h3)))
theorem pct_byte {b : UInt8} (h : inB 16 b.toNat = true) : b = 37 := by
  have : ∀ n : Nat, n < 256 → inB 16 (n : Int) = true → n = 37 := by decide +kernel
  exact UInt8.toNat_inj.1 (this b.toNat (UInt8.toNat_lt b) h)
theorem nl_byte {b : UInt8} (h : ¬ nlB b.toNat = true) : b = 10 := by
  have : ∀ n : Nat, n < 256 → nlB (n : Int) = false → n = 10 := by decide +kernel
  exact UInt8.toNat_inj.1 (this b.toNat (UInt8.toNat_lt b) (by simpa using h))
theorem nl_byte' {b : UInt8} (h : nlB b.toNat = true) : b ≠ 10 := by rintro rfl; revert h; decide +kernel
theorem emp_gap : ∀ (l : List UInt8) (b : Bool), emp b (l.take (l.length - (sk b l).length)) = true
  | [], b => by cases b <;> rfl
  | c :: r, false => by
    have hs := fun b => (sk_suffix r b).length_le
    by_cases h1 : inB 1 c.toNat = true
    · have e : sk false (c :: r) = sk false r := by (conv => lhs; unfold sk); rw [if_pos h1]
      rw [e, List.length_cons, show r.length + 1 - (sk false r).length = (r.length - (sk false r).length) + 1 from by have := hs false; omega, List.take_succ_cons]
      have ih := emp_gap r false
      rcases blank_bytes h1 with rfl | rfl | rfl | rfl <;> simpa [emp] using ih
    · by_cases h2 : inB 16 c.toNat = true
      · have e : sk false (c :: r) = sk true r := by (conv => lhs; unfold sk); rw [if_neg h1, if_pos h2]
        rw [e, List.length_cons, show r.length + 1 - (sk true r).length = (r.length - (sk true r).length) + 1 from by have := hs true; omega, List.take_succ_cons]
        have ih := emp_gap r true
        rw [pct_byte h2]
        simpa [emp] using ih
      · have e : sk false (c :: r) = c :: r := by (conv => lhs; unfold sk); rw [if_neg h1, if_neg h2]
        rw [e, Nat.sub_self]; rfl
  | c :: r, true => by
    have hs := fun b => (sk_suffix r b).length_le
    by_cases h1 : nlB c.toNat = true
    · have e : sk true (c :: r) = sk true r := by (conv => lhs; unfold sk); rw [if_pos h1]
      rw [e, List.length_cons, show r.length + 1 - (sk true r).length = (r.length - (sk true r).length) + 1 from by have := hs true; omega, List.take_succ_cons]
      have ih := emp_gap r true
      have := nl_byte' h1
      simp [emp, this, ih]
    · have e : sk true (c :: r) = sk false r := by (conv => lhs; unfold sk); rw [if_neg h1]
      rw [e, List.length_cons, show r.length + 1 - (sk false r).length = (r.length - (sk false r).length) + 1 from by have := hs false; omega, List.take_succ_cons]
      have ih := emp_gap r false
      rw [nl_byte h1]
      simpa [emp] using ih

/-- The tokens lie in the source l one after the other from an offset on, with blanks and comments between. -/
def LieFrom (l : List UInt8) : Nat → List Tk → Prop
  | from_, [] => emp false (l.drop from_) = true
  | from_, x :: r => from_ ≤ x.a ∧ x.a + x.t.data.toList.length ≤ l.length ∧ (l.drop x.a).take x.t.data.toList.length = x.t.data.toList ∧ emp false ((l.drop from_).take (x.a - from_)) = true ∧ LieFrom l (x.a + x.t.data.toList.length) r
theorem lexL_lie (L : List UInt8) : ∀ (f a : Nat), a ≤ L.length → L.length < f + a → (∀ x ∈ lexL f (L.drop a) a, x.e = 0) → LieFrom L a (lexL f (L.drop a) a)
  | 0, a, h1, h2, _ => by omega
  | f + 1, a, h1, h2, he => by
    have hg := emp_gap (L.drop a) false
    have hs := (sk_suffix (L.drop a) false).length_le
    have hl : (L.drop a).length = L.length - a := List.length_drop ..
    have hsd := List.suffix_iff_eq_drop.1 (sk_suffix (L.drop a) false)
    unfold lexL at he ⊢
    cases hsk : sk false (L.drop a) with
    | nil =>
      rw [hsk] at hg
      simp only [List.length_nil, Nat.sub_zero] at hg
      rw [List.take_length] at hg
      exact hg
    | cons c r =>
      rw [hsk] at hg hs hsd he
      simp only [] at he ⊢
      obtain ⟨i, hi⟩ : ∃ i, a + ((L.drop a).length - (c :: r).length) = i := ⟨_, rfl⟩
      have hcr : (c :: r) = L.drop i := by
        rw [List.drop_drop] at hsd
        rw [hi] at hsd; exact hsd
      rw [hi] at he ⊢
      have hpos : 0 < (c :: r).length := by simp
      have h0 : tE (c :: r) = 0 := by
        by_cases h0 : tE (c :: r) = 0
        · exact h0
        · rw [if_neg h0] at he
          exact he _ (List.mem_singleton.2 rfl)
      rw [if_pos h0] at he ⊢
      have hle := tLen_le (c :: r)
      have hlen : (c :: r).length = L.length - i := by rw [hcr]; exact List.length_drop ..
      have ht : (tText (c :: r)).data.toList = (c :: r).take (tLen (c :: r)) := by unfold tText; simp
      have htl : (tText (c :: r)).data.toList.length = tLen (c :: r) := by rw [ht, List.length_take, Nat.min_eq_left hle]
      have hp := tLen_pos h0
      have hai : a ≤ i := by omega
      refine ⟨hai, by simp only [htl]; omega, ?_, ?_, ?_⟩
      · simp only [htl]; rw [ht, ← hcr]
      · show emp false ((L.drop a).take (i - a)) = true
        rw [show i - a = (L.drop a).length - (c :: r).length from by omega]; exact hg
      · simp only [htl]
        have hd : (c :: r).drop (tLen (c :: r)) = L.drop (i + tLen (c :: r)) := by rw [hcr, List.drop_drop]
        rw [hd] at he ⊢
        exact lexL_lie L f (i + tLen (c :: r)) (by omega) (by omega) (fun x hx => he x (List.mem_cons_of_mem _ hx))
end Go.Proofs.YtpnkmpmgadciaaaDoor
