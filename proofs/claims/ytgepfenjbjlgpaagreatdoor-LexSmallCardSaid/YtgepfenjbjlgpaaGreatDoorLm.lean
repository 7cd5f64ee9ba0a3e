/- The tokens of a list of bytes: plain mathematics. -/
import Derived.Test.YtgepfenjbjlgpaaGreatDoorLx
namespace Go.Proofs.YtgepfenjbjlgpaaGreatDoor
open Go.RowKit

def headP (p : Int → Bool) (l : List UInt8) : Bool := match l with | [] => false | c :: _ => p c.toNat
def twN (p : Int → Bool) (l : List UInt8) : Nat := (l.takeWhile fun b => p b.toNat).length
def tLen (l : List UInt8) : Nat := if headP (inB 10) l then twN (inB 14) l else if headP (inB 4) l then twN (inB 4) l else if headP (inB 32) l then 1 + twN (inB 2) (l.drop 1) else signL l
def tText (l : List UInt8) : ByteArray := ⟨(l.take (tLen l)).toArray⟩
def tK (l : List UInt8) : Int := if headP (inB 10) l then wordK (tText l) else if headP (inB 4) l then numK (tText l) else if headP (inB 32) l then dirK (tText l) else sigK (tText l)
def tE (l : List UInt8) : Int := if headP (inB 10) l then wordE (tText l) else if headP (inB 4) l then numE (tText l) else if headP (inB 32) l then dirE (tText l) else sigE (tText l)
/-- The tokens of a list that begins at offset a. -/
def lexL : Nat → List UInt8 → Nat → List Tk
  | 0, _, _ => []
  | f + 1, l, a => match sk false l with
    | [] => []
    | c :: r => if tE (c :: r) = 0 then ⟨tK (c :: r), tText (c :: r), a + (l.length - (c :: r).length), tE (c :: r)⟩ :: lexL f ((c :: r).drop (tLen (c :: r))) (a + (l.length - (c :: r).length) + tLen (c :: r))
      else [⟨tK (c :: r), tText (c :: r), a + (l.length - (c :: r).length), tE (c :: r)⟩]

theorem begB_head {p : Int → Bool} {s : ByteArray} {a : Nat} : begB p s a = headP p (s.data.toList.drop a) := begB_drop
theorem tokN_len (s : ByteArray) (a : Nat) : tokN s a = a + tLen (s.data.toList.drop a) := by
  unfold tokN tLen
  rw [begB_head, begB_head, begB_head]
  split
  · rfl
  · split
    · rfl
    · split
      · unfold runN twN; rw [List.drop_drop]; omega
      · rfl
theorem ext_tText (s : ByteArray) (a : Nat) : s.extract a (tokN s a) = tText (s.data.toList.drop a) := by
  have h : (s.extract a (tokN s a)).data.toList = (s.data.toList.drop a).take (tLen (s.data.toList.drop a)) := by
    rw [ext_list, tokN_len, Nat.add_sub_cancel_left]
  unfold tText; rw [← h]
theorem tokAt_eq (s : ByteArray) (a : Nat) : tokAt s a = ⟨tK (s.data.toList.drop a), tText (s.data.toList.drop a), a, tE (s.data.toList.drop a)⟩ := by
  unfold tokAt
  rw [ext_tText]
  unfold tkK tkE tK tE
  rw [begB_head, begB_head, begB_head]

theorem lexF_eq (s : ByteArray) : ∀ (f a : Nat), a ≤ s.size → lexF f s a = lexL f (s.data.toList.drop a) a
  | 0, _, _ => rfl
  | f + 1, a, ha => by
    have hsz : s.data.toList.length = s.size := rfl
    have hd := skN_drop (s := s) (a := a)
    have hge := skN_ge ha
    have hlen : (sk false (s.data.toList.drop a)).length = s.size - skN s a := by rw [← hd, List.length_drop, hsz]
    have hl2 : (s.data.toList.drop a).length = s.size - a := by rw [List.length_drop, hsz]
    unfold lexF lexL
    cases hsk : sk false (s.data.toList.drop a) with
    | nil =>
      rw [hsk] at hlen
      simp only [List.length_nil] at hlen
      rw [if_neg (by omega)]
    | cons c r =>
      rw [hsk] at hd hlen
      have hlt : skN s a < s.size := by simp only [List.length_cons] at hlen; omega
      have hi : a + ((s.data.toList.drop a).length - (c :: r).length) = skN s a := by rw [hlen, hl2]; omega
      rw [if_pos hlt]
      simp only []
      rw [hi, tokAt_eq, hd]
      simp only []
      split
      · rename_i he
        have h1 : (tokAt s (skN s a)).e = 0 := by rw [tokAt_eq, hd]; exact he
        rw [lexF_eq s f _ (tokN_le hlt).2, tokN_len, ← List.drop_drop, hd]
      · rfl
theorem lexAll_eq (s : ByteArray) : lexAll s = lexL (s.size + 1) s.data.toList 0 := by
  unfold lexAll; rw [lexF_eq s _ 0 (Nat.zero_le _)]; rfl

/-- A token takes a byte at least. -/
theorem tLen_le (l : List UInt8) : tLen l ≤ l.length := by
  have h := fun (p : Int → Bool) (l : List UInt8) => (List.takeWhile_prefix (fun b : UInt8 => p b.toNat) (l := l)).length_le
  unfold tLen twN
  split
  · exact h _ _
  · split
    · exact h _ _
    · split
      · rename_i hh
        cases l with
        | nil => cases hh
        | cons c r => have := h (inB 2) r; simp only [List.drop_one, List.tail_cons, List.length_cons]; omega
      · exact signL_le l
theorem tLen_pos {l : List UInt8} (h : tE l = 0) : 0 < tLen l := by
  cases l with
  | nil => revert h; decide +kernel
  | cons c r =>
    unfold tLen twN
    split
    · rename_i hh
      rw [List.takeWhile_cons, if_pos (by simpa using in10_14 (show inB 10 c.toNat = true from hh))]; simp
    · rename_i h1
      split
      · rename_i hh
        rw [List.takeWhile_cons, if_pos (by simpa using (show inB 4 c.toNat = true from hh))]; simp
      · rename_i h2
        split
        · omega
        · rename_i h3
          unfold tE at h
          rw [if_neg h1, if_neg h2, if_neg h3] at h
          apply Decidable.byContradiction; intro hn
          have h0 : signL (c :: r) = 0 := by omega
          unfold sigE tText tLen at h
          rw [if_neg h1, if_neg h2, if_neg h3, h0, List.take_zero] at h
          revert h; decide +kernel

/-- The fuel does not matter. -/
theorem lexL_fuel : ∀ (f g : Nat) (l : List UInt8) (a : Nat), l.length < f → l.length < g → lexL f l a = lexL g l a
  | 0, _, _, _, h, _ => by omega
  | _ + 1, 0, _, _, _, h => by omega
  | f + 1, g + 1, l, a, hf, hg => by
    have hs := (sk_suffix l false).length_le
    unfold lexL
    cases hsk : sk false l with
    | nil => rfl
    | cons c r =>
      rw [hsk] at hs
      simp only []
      split
      · rename_i he
        have := tLen_pos he
        have h0 : 0 < (c :: r).length := by simp
        rw [lexL_fuel f g _ _ (by rw [List.length_drop]; omega) (by rw [List.length_drop]; omega)]
      · rfl

def shiftT (d : Nat) (x : Tk) : Tk := { x with a := x.a + d }
theorem lexL_shift (d : Nat) : ∀ (f : Nat) (l : List UInt8) (a : Nat), lexL f l (a + d) = (lexL f l a).map (shiftT d)
  | 0, _, _ => rfl
  | f + 1, l, a => by
    unfold lexL
    cases hsk : sk false l with
    | nil => rfl
    | cons c r =>
      simp only []
      have e : a + d + (l.length - (c :: r).length) = a + (l.length - (c :: r).length) + d := by omega
      split
      · rw [List.map_cons, e, show a + (l.length - (c :: r).length) + d + tLen (c :: r) = a + (l.length - (c :: r).length) + tLen (c :: r) + d from by omega, lexL_shift d f]
        rfl
      · rw [e]; rfl

/-! ### Two sources with a newline between -/
theorem sk_app (z : List UInt8) : ∀ (l : List UInt8) (b : Bool), sk b (l ++ 10 :: z) = if sk b l = [] then sk false z else sk b l ++ 10 :: z
  | [], b => by
    cases b
    · simp only [List.nil_append]
      rw [if_pos (by rfl)]
      conv => lhs; unfold sk
      rw [if_pos (by decide +kernel)]
    · simp only [List.nil_append]
      rw [if_pos (by rfl)]
      conv => lhs; unfold sk
      rw [if_neg (by decide +kernel)]
  | c :: r, false => by
    by_cases h1 : inB 1 c.toNat = true
    · have e1 : sk false (c :: r) = sk false r := by (conv => lhs; unfold sk); rw [if_pos h1]
      have e2 : sk false (c :: (r ++ 10 :: z)) = sk false (r ++ 10 :: z) := by (conv => lhs; unfold sk); rw [if_pos h1]
      rw [e1, List.cons_append, e2]; exact sk_app z r false
    · by_cases h2 : inB 16 c.toNat = true
      · have e1 : sk false (c :: r) = sk true r := by (conv => lhs; unfold sk); rw [if_neg h1, if_pos h2]
        have e2 : sk false (c :: (r ++ 10 :: z)) = sk true (r ++ 10 :: z) := by (conv => lhs; unfold sk); rw [if_neg h1, if_pos h2]
        rw [e1, List.cons_append, e2]; exact sk_app z r true
      · have e1 : sk false (c :: r) = c :: r := by (conv => lhs; unfold sk); rw [if_neg h1, if_neg h2]
        have e2 : sk false (c :: (r ++ 10 :: z)) = c :: (r ++ 10 :: z) := by (conv => lhs; unfold sk); rw [if_neg h1, if_neg h2]
        rw [e1, List.cons_append, e2, if_neg (by simp)]
  | c :: r, true => by
    by_cases h1 : nlB c.toNat = true
    · have e1 : sk true (c :: r) = sk true r := by (conv => lhs; unfold sk); rw [if_pos h1]
      have e2 : sk true (c :: (r ++ 10 :: z)) = sk true (r ++ 10 :: z) := by (conv => lhs; unfold sk); rw [if_pos h1]
      rw [e1, List.cons_append, e2]; exact sk_app z r true
    · have e1 : sk true (c :: r) = sk false r := by (conv => lhs; unfold sk); rw [if_neg h1]
      have e2 : sk true (c :: (r ++ 10 :: z)) = sk false (r ++ 10 :: z) := by (conv => lhs; unfold sk); rw [if_neg h1]
      rw [e1, List.cons_append, e2]; exact sk_app z r false

/-- A byte that ends every token. -/
def Ends (z : List UInt8) : Prop := z = [] ∨ ∃ c r, z = c :: r ∧ (c = 10 ∨ c = 32 ∨ c = 9 ∨ c = 13 ∨ c = 37)
theorem ends_not {c : UInt8} (h : c = 10 ∨ c = 32 ∨ c = 9 ∨ c = 13 ∨ c = 37) : inB 14 c.toNat = false ∧ inB 4 c.toNat = false ∧ inB 2 c.toNat = false := by
  rcases h with rfl | rfl | rfl | rfl | rfl <;> decide +kernel
theorem tw_app {p : Int → Bool} {z : List UInt8} (hz : z = [] ∨ ∃ c r, z = c :: r ∧ p c.toNat = false) : ∀ l : List UInt8, twN p (l ++ z) = twN p l
  | [] => by
    rcases hz with rfl | ⟨c, r, rfl, h⟩
    · rfl
    · unfold twN; rw [List.nil_append, List.takeWhile_cons, if_neg (by simp [h])]; rfl
  | d :: l => by
    unfold twN
    rw [List.cons_append, List.takeWhile_cons, List.takeWhile_cons]
    split
    · have := tw_app hz l; unfold twN at this; simp only [List.length_cons, this]
    · rfl
theorem two_ends {c d : UInt8} (h : d = 10 ∨ d = 32 ∨ d = 9 ∨ d = 13 ∨ d = 37) : twoB [c, d] = false := by
  unfold twoB
  rcases h with rfl | rfl | rfl | rfl | rfl <;> simp
theorem signL_app {z : List UInt8} (hz : Ends z) {l : List UInt8} (hl : l ≠ []) : signL (l ++ z) = signL l := by
  rcases l with _ | ⟨c, _ | ⟨d, r⟩⟩
  · exact absurd rfl hl
  · rcases hz with rfl | ⟨e, r, rfl, h⟩
    · rfl
    · unfold signL
      have h1 : twoB (([c] ++ e :: r).take 2) = false := two_ends h
      have h2 : twoB ([c].take 2) = false := by
        unfold twoB; simp
      rw [h1, h2]; rfl
  · rfl
theorem head_app {p : Int → Bool} {l z : List UInt8} (hl : l ≠ []) : headP p (l ++ z) = headP p l := by
  cases l with
  | nil => exact absurd rfl hl
  | cons c r => rfl
theorem tLen_app {z : List UInt8} (hz : Ends z) {l : List UInt8} (hl : l ≠ []) : tLen (l ++ z) = tLen l := by
  have hp : ∀ p : Int → Bool, (p = inB 14 ∨ p = inB 4 ∨ p = inB 2) → (z = [] ∨ ∃ c r, z = c :: r ∧ p c.toNat = false) := by
    intro p hp
    rcases hz with rfl | ⟨c, r, rfl, h⟩
    · exact .inl rfl
    · obtain ⟨h1, h2, h3⟩ := ends_not h
      exact .inr ⟨c, r, rfl, by rcases hp with rfl | rfl | rfl <;> assumption⟩
  unfold tLen
  rw [head_app hl, head_app hl, head_app hl, tw_app (hp _ (.inl rfl)), tw_app (hp _ (.inr (.inl rfl))), signL_app hz hl]
  have : (l ++ z).drop 1 = l.drop 1 ++ z := by
    cases l with
    | nil => exact absurd rfl hl
    | cons c r => rfl
  rw [this, tw_app (hp _ (.inr (.inr rfl)))]
theorem tText_app {z : List UInt8} (hz : Ends z) {l : List UInt8} (hl : l ≠ []) : tText (l ++ z) = tText l := by
  unfold tText; rw [tLen_app hz hl, List.take_append_of_le_length (tLen_le l)]
theorem tK_app {z : List UInt8} (hz : Ends z) {l : List UInt8} (hl : l ≠ []) : tK (l ++ z) = tK l := by
  unfold tK; rw [head_app hl, head_app hl, head_app hl, tText_app hz hl]
theorem tE_app {z : List UInt8} (hz : Ends z) {l : List UInt8} (hl : l ≠ []) : tE (l ++ z) = tE l := by
  unfold tE; rw [head_app hl, head_app hl, head_app hl, tText_app hz hl]

/-- The tokens of two sources with a newline between. -/
theorem lexL_app (z : List UInt8) : ∀ (f : Nat) (l : List UInt8) (a : Nat), l.length < f →
    lexL (f + z.length + 1) (l ++ 10 :: z) a = if (lexL f l a).all (fun x => x.e == 0) then lexL f l a ++ lexL (z.length + 1) z (a + l.length + 1) else lexL f l a
  | 0, _, _, h => by omega
  | f + 1, l, a, hf => by
    have hs := (sk_suffix l false).length_le
    cases hsk : sk false l with
    | nil =>
      have e1 : lexL (f + 1) l a = [] := by unfold lexL; rw [hsk]
      rw [e1]
      have e2 : sk false (l ++ 10 :: z) = sk false z := by rw [sk_app, hsk, if_pos rfl]
      rw [show (([] : List Tk).all fun x => x.e == 0) = true from rfl, if_pos rfl, List.nil_append]
      rw [lexL_fuel (z.length + 1) (f + 1 + z.length + 1) z _ (by omega) (by omega)]
      unfold lexL
      rw [e2]
      cases hz : sk false z with
      | nil => rfl
      | cons c r =>
        have hzl := (sk_suffix z false).length_le
        rw [hz] at hzl
        simp only []
        have e3 : a + ((l ++ 10 :: z).length - (c :: r).length) = a + l.length + 1 + (z.length - (c :: r).length) := by
          simp only [List.length_append, List.length_cons] at hzl ⊢; omega
        rw [e3]
    | cons c r =>
      rw [hsk] at hs
      have e2 : sk false (l ++ 10 :: z) = c :: (r ++ 10 :: z) := by rw [sk_app, hsk, if_neg (by simp)]; rfl
      have hE : Ends (10 :: z) := .inr ⟨10, z, rfl, .inl rfl⟩
      have hne : c :: r ≠ [] := by simp
      have hcr : c :: (r ++ 10 :: z) = (c :: r) ++ 10 :: z := rfl
      have e3 : a + ((l ++ 10 :: z).length - (c :: (r ++ 10 :: z)).length) = a + (l.length - (c :: r).length) := by
        simp only [List.length_append, List.length_cons] at hs ⊢; omega
      have e4 : lexL (f + 1 + z.length + 1) (l ++ 10 :: z) a = if tE (c :: r) = 0 then ⟨tK (c :: r), tText (c :: r), a + (l.length - (c :: r).length), tE (c :: r)⟩ :: lexL (f + 1 + z.length) ((c :: r).drop (tLen (c :: r)) ++ 10 :: z) (a + (l.length - (c :: r).length) + tLen (c :: r))
          else [⟨tK (c :: r), tText (c :: r), a + (l.length - (c :: r).length), tE (c :: r)⟩] := by
        conv => lhs; unfold lexL
        rw [e2]
        simp only []
        rw [e3, hcr, tE_app hE hne, tK_app hE hne, tText_app hE hne, tLen_app hE hne, List.drop_append_of_le_length (tLen_le _)]
      have e5 : lexL (f + 1) l a = if tE (c :: r) = 0 then ⟨tK (c :: r), tText (c :: r), a + (l.length - (c :: r).length), tE (c :: r)⟩ :: lexL f ((c :: r).drop (tLen (c :: r))) (a + (l.length - (c :: r).length) + tLen (c :: r))
          else [⟨tK (c :: r), tText (c :: r), a + (l.length - (c :: r).length), tE (c :: r)⟩] := by
        conv => lhs; unfold lexL
        rw [hsk]
      rw [e4, e5]
      by_cases he : tE (c :: r) = 0
      · rw [if_pos he, if_pos he]
        have hp := tLen_pos he
        have hle := tLen_le (c :: r)
        have h0 : 0 < (c :: r).length := by simp
        have ih := lexL_app z f ((c :: r).drop (tLen (c :: r))) (a + (l.length - (c :: r).length) + tLen (c :: r)) (by rw [List.length_drop]; omega)
        rw [show f + 1 + z.length = f + z.length + 1 from by omega, ih]
        rw [List.all_cons]
        have hb : ((⟨tK (c :: r), tText (c :: r), a + (l.length - (c :: r).length), tE (c :: r)⟩ : Tk).e == 0) = true := by simp [he]
        rw [hb, Bool.true_and]
        split
        · rw [List.cons_append]
          have e6 : a + (l.length - (c :: r).length) + tLen (c :: r) + ((c :: r).drop (tLen (c :: r))).length + 1 = a + l.length + 1 := by rw [List.length_drop]; omega
          rw [e6]
        · rfl
      · rw [if_neg he, if_neg he]
        rw [if_neg]
        simp [he]

/-! ### What the law of two sources says -/
def lex2 (a b : ByteArray) : ByteArray := a ++ ⟨#[10]⟩ ++ b
theorem lex2_list (a b : ByteArray) : (lex2 a b).data.toList = a.data.toList ++ 10 :: b.data.toList := by
  unfold lex2; simp [ByteArray.data_append]
theorem lex2_size (a b : ByteArray) : (lex2 a b).size = a.size + 1 + b.size := by
  have : (lex2 a b).data.toList.length = (a.data.toList ++ 10 :: b.data.toList).length := by rw [lex2_list]
  simp only [List.length_append, List.length_cons] at this
  have h1 : (lex2 a b).data.toList.length = (lex2 a b).size := rfl
  have h2 : a.data.toList.length = a.size := rfl
  have h3 : b.data.toList.length = b.size := rfl
  omega
theorem lexAll2 (a b : ByteArray) : lexAll (lex2 a b) = if (lexAll a).all (fun x => x.e == 0) then lexAll a ++ (lexAll b).map (shiftT (a.size + 1)) else lexAll a := by
  have h2 : a.data.toList.length = a.size := rfl
  have h3 : b.data.toList.length = b.size := rfl
  rw [lexAll_eq, lexAll_eq a, lexAll_eq b, lex2_list, lex2_size]
  have h := lexL_app b.data.toList (a.size + 1) a.data.toList 0 (by omega)
  rw [show a.size + 1 + b.size + 1 = a.size + 1 + b.data.toList.length + 1 from by omega, h, h3]
  rw [show 0 + a.data.toList.length + 1 = 0 + (a.size + 1) from by omega, lexL_shift]
theorem lexErr_all {s : ByteArray} : lexErr s = none ↔ (lexAll s).all (fun x => x.e == 0) = true := by
  unfold lexErr
  rw [List.find?_eq_none, List.all_eq_true]
  constructor
  · intro h x hx; simpa using h x hx
  · intro h x hx; simpa using h x hx
theorem lex2_err {a b : ByteArray} {x : Tk} (h : lexErr a = some x) : lexErr (lex2 a b) = some x := by
  have hn : ¬ (lexAll a).all (fun x => x.e == 0) = true := by rw [← lexErr_all, h]; simp
  unfold lexErr; rw [lexAll2, if_neg hn]; exact h
theorem lex2_ok {a b : ByteArray} (h : lexErr a = none) : lexAll (lex2 a b) = lexAll a ++ (lexAll b).map (shiftT (a.size + 1)) := by
  rw [lexAll2, if_pos (lexErr_all.1 h)]
theorem lex2_second {a b : ByteArray} (h : lexErr a = none) : lexErr (lex2 a b) = (lexErr b).map (shiftT (a.size + 1)) := by
  unfold lexErr
  rw [lex2_ok h, List.find?_append]
  have h1 : (lexAll a).find? (fun x => x.e != 0) = none := h
  rw [h1, Option.none_or, List.find?_map]
  rfl
end Go.Proofs.YtgepfenjbjlgpaaGreatDoor
