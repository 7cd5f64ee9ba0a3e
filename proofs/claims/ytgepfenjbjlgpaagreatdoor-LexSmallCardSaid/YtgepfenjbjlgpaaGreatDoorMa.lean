/- The reference model of lex: its mathematics. -/
import Derived.Test.YtgepfenjbjlgpaaGreatDoorLm
namespace Go.Proofs.YtgepfenjbjlgpaaGreatDoor
open Go.RowKit

/-- The tokens from an offset on. -/
def lexR (s : ByteArray) (a : Nat) : List Tk := lexF (s.size + 1) s a
theorem lexR_zero (s : ByteArray) : lexAll s = lexR s 0 := rfl
theorem lexR_skip {s : ByteArray} {a b : Nat} (h : skN s a = skN s b) : lexR s a = lexR s b := by
  unfold lexR; rw [← lexF_skip, h, lexF_skip]
theorem lexR_blank {s : ByteArray} {a : Nat} (h : begB (inB 1) s a = true) : lexR s (a + 1) = lexR s a :=
  lexR_skip (by rw [← skN_blanks (a := a + 1), runN_step h, skN_blanks])
theorem lexR_line {s : ByteArray} {a : Nat} (h : begB (inB 16) s a = true) : lexR s (runN nlB s a) = lexR s a := lexR_skip (skN_line h)
theorem lexR_end {s : ByteArray} {a : Nat} (h : ¬ a < s.size) : lexR s a = [] := by
  unfold lexR lexF
  have hd : s.data.toList.drop a = [] := List.drop_eq_nil_of_le (by have : s.data.toList.length = s.size := rfl; omega)
  have hs : skN s a = s.size := by
    unfold skN; rw [hd]; rfl
  rw [hs, if_neg (by omega)]
theorem lexR_tok {s : ByteArray} {a : Nat} (ha : a < s.size) (h : begB (inB 17) s a = false) : lexR s a = if (tokAt s a).e = 0 then tokAt s a :: lexR s (tokN s a) else [tokAt s a] := by
  have hk := skN_stop (by omega : a ≤ s.size) h
  have hl : s.data.toList.length = s.size := rfl
  unfold lexR
  conv => lhs; unfold lexF
  rw [hk, if_pos ha]
  split
  · rename_i he
    have h1 := tokN_gt ha he
    have h2 := tokN_le ha
    rw [lexF_eq s s.size _ h2.2, lexF_eq s (s.size + 1) _ h2.2, lexL_fuel s.size (s.size + 1) _ _ (by rw [List.length_drop]; omega) (by rw [List.length_drop]; omega)]
  · rfl

theorem inB1 (c : Int) : inB 1 c = (c == 32 || (c == 9 || (c == 10 || c == 13))) := by
  by_cases h : c = 32 ∨ c = 9 ∨ c = 10 ∨ c = 13
  · rcases h with rfl | rfl | rfl | rfl <;> rfl
  · have e : (c == 32 || (c == 9 || (c == 10 || c == 13))) = false := by simp; omega
    rw [e]
    unfold inB clsI
    repeat' split
    all_goals first | rfl | (exfalso; omega)
theorem inB2 (c : Int) : inB 2 c = (decide (97 ≤ c) && decide (c ≤ 122) || decide (65 ≤ c) && decide (c ≤ 90)) := by
  by_cases h : (97 ≤ c ∧ c ≤ 122) ∨ (65 ≤ c ∧ c ≤ 90)
  · have e : (decide (97 ≤ c) && decide (c ≤ 122) || decide (65 ≤ c) && decide (c ≤ 90)) = true := by simp; omega
    rw [e]
    unfold inB; rw [cls_letter h]; rfl
  · have e : (decide (97 ≤ c) && decide (c ≤ 122) || decide (65 ≤ c) && decide (c ≤ 90)) = false := by
      rw [Bool.eq_false_iff]; intro h'; apply h; simpa using h'
    rw [e]
    unfold inB clsI
    repeat' split
    all_goals first | rfl | (exfalso; omega)
theorem inB4 (c : Int) : inB 4 c = (decide (48 ≤ c) && decide (c ≤ 57)) := by
  by_cases h : 48 ≤ c ∧ c ≤ 57
  · have e : (decide (48 ≤ c) && decide (c ≤ 57)) = true := by simp; omega
    rw [e]
    unfold inB; rw [cls_digit h]; rfl
  · have e : (decide (48 ≤ c) && decide (c ≤ 57)) = false := by
      rw [Bool.eq_false_iff]; intro h'; apply h; simpa using h'
    rw [e]
    unfold inB clsI
    repeat' split
    all_goals first | rfl | (exfalso; omega)
theorem inB8 (c : Int) : inB 8 c = (c == 95) := by
  by_cases h : c = 95
  · subst h; rfl
  · have e : (c == 95) = false := by simpa using h
    rw [e]
    unfold inB clsI
    repeat' split
    all_goals first | rfl | (exfalso; omega)
theorem inB16 (c : Int) : inB 16 c = (c == 37) := by
  by_cases h : c = 37
  · subst h; rfl
  · have e : (c == 37) = false := by simpa using h
    rw [e]
    unfold inB clsI
    repeat' split
    all_goals first | rfl | (exfalso; omega)
theorem inB32 (c : Int) : inB 32 c = (c == 35) := by
  by_cases h : c = 35
  · subst h; rfl
  · have e : (c == 35) = false := by simpa using h
    rw [e]
    unfold inB clsI
    repeat' split
    all_goals first | rfl | (exfalso; omega)
theorem inB10 (c : Int) : inB 10 c = (inB 2 c || inB 8 c) := by
  rcases cls_lit c with h | h | h | h | h | h | h <;> (unfold inB; rw [h]; rfl)
theorem inB14 (c : Int) : inB 14 c = (inB 2 c || (inB 4 c || inB 8 c)) := by
  rcases cls_lit c with h | h | h | h | h | h | h <;> (unfold inB; rw [h]; rfl)
theorem inB17 (c : Int) : inB 17 c = (inB 1 c || inB 16 c) := by
  rcases cls_lit c with h | h | h | h | h | h | h <;> (unfold inB; rw [h]; rfl)

/-! ### Numbers -/
theorem uint_ge : ∀ (l : List UInt8) (M acc u : Nat), Lib.parseUintM M acc l = .ok u → acc ≤ u
  | [], _, _, _, h => by simp only [Lib.parseUintM] at h; cases h; exact Nat.le_refl _
  | c :: r, M, acc, u, h => by
    simp only [Lib.parseUintM] at h
    split at h
    · split at h
      · cases h
      · split at h
        · cases h
        · have := uint_ge r M _ u h; omega
    · cases h
theorem uint_step {c : UInt8} {r : List UInt8} {acc : Nat} (hc : inB 4 c.toNat = true) (ha : acc ≤ 2147483647) : Lib.parseUintM (2 ^ 64 - 1) acc (c :: r) = Lib.parseUintM (2 ^ 64 - 1) (acc * 10 + (c.toNat - 48)) r := by
  have h := in4 hc
  conv => lhs; simp only [Lib.parseUintM]
  rw [if_pos h, if_neg (by omega), if_neg (by omega)]
theorem num_of {s : ByteArray} (h0 : 0 < s.size) (hd : ∀ c ∈ s.data.toList, inB 4 c.toNat = true) : numB s = match Lib.parseUintM (2 ^ 64 - 1) 0 s.data.toList with
    | .ok u => decide (u ≤ 2147483647) && !(s[0] == 48 && decide (1 < s.size))
    | _ => false := by
  have hl : s.data.toList = s[0] :: s.data.toList.drop 1 := by
    have := List.drop_eq_getElem_cons (l := s.data.toList) (i := 0) (by simpa using h0)
    rw [List.drop_zero] at this
    exact this
  have h48 := in4 (hd s[0] (by rw [hl]; exact List.mem_cons_self ..))
  have hp : Lib.parseIntB 64 s.data.toList = match Lib.parseUintM (2 ^ 64 - 1) 0 s.data.toList with
      | .ok u => if 2 ^ 63 ≤ u then .range else .ok (u : Int)
      | .range => .range
      | _ => Lib.parseIntB 64 [] := by
    rw [hl]
    unfold Lib.parseIntB Lib.parseUintB
    simp only [if_neg (show ¬ (s[0].toNat = 43 ∨ s[0].toNat = 45) by omega), if_neg (show ¬ (s[0] :: s.data.toList.drop 1) = [] by simp)]
    cases Lib.parseUintM (2 ^ 64 - 1) 0 (s[0] :: s.data.toList.drop 1) with
    | ok u => simp [show ¬ s[0].toNat = 45 by omega]
    | _ => rfl
  have hh : s.data.toList.headD 0 = s[0] := by rw [hl]; rfl
  unfold numB
  rw [hp, hh]
  cases Lib.parseUintM (2 ^ 64 - 1) 0 s.data.toList with
  | ok u =>
    simp only []
    by_cases h : 2 ^ 63 ≤ u
    · rw [if_pos h, decide_eq_false (show ¬ u ≤ 2147483647 by omega)]; rfl
    · rw [if_neg h]
      simp only []
      congr 1
      by_cases h2 : u ≤ 2147483647
      · rw [decide_eq_true h2, decide_eq_true (show (u : Int) ≤ 2147483647 by omega)]
      · rw [decide_eq_false h2, decide_eq_false (show ¬ (u : Int) ≤ 2147483647 by omega)]
  | _ => rfl
theorem num_big {s : ByteArray} {acc : Nat} {r : List UInt8} (h0 : 0 < s.size) (hd : ∀ c ∈ s.data.toList, inB 4 c.toNat = true) (h : Lib.parseUintM (2 ^ 64 - 1) 0 s.data.toList = Lib.parseUintM (2 ^ 64 - 1) acc r) (hb : ¬ acc ≤ 2147483647) : numB s = false := by
  rw [num_of h0 hd, h]
  cases hu : Lib.parseUintM (2 ^ 64 - 1) acc r with
  | ok u =>
    have := uint_ge _ _ _ _ hu
    simp only []
    rw [decide_eq_false (by omega)]; rfl
  | _ => rfl
theorem num_lead {s : ByteArray} (h0 : 0 < s.size) (hd : ∀ c ∈ s.data.toList, inB 4 c.toNat = true) (h1 : 1 < s.size) (h48 : s[0] = 48) : numB s = false := by
  rw [num_of h0 hd]
  cases Lib.parseUintM (2 ^ 64 - 1) 0 s.data.toList with
  | ok u => simp [h48, h1]
  | _ => rfl
theorem num_good {s : ByteArray} {acc : Nat} (h0 : 0 < s.size) (hd : ∀ c ∈ s.data.toList, inB 4 c.toNat = true) (h : Lib.parseUintM (2 ^ 64 - 1) 0 s.data.toList = Lib.parseUintM (2 ^ 64 - 1) acc []) (hb : acc ≤ 2147483647) (hz : ¬ 1 < s.size ∨ s[0] ≠ 48) : numB s = true := by
  rw [num_of h0 hd, h]
  simp only [Lib.parseUintM]
  rw [decide_eq_true hb]
  rcases hz with hz | hz
  · simp [hz]
  · simp [hz]

/-! ### Signs -/
theorem sign_one {s : ByteArray} {a : Nat} (ha : a < s.size) (h2 : twoB ((s.data.toList.drop a).take 2) = false) : signL (s.data.toList.drop a) = if oneL.contains s[a] then 1 else 0 := by
  have hl := List.drop_eq_getElem_cons (l := s.data.toList) (i := a) (by simpa using ha)
  unfold signL
  rw [if_neg (by rw [h2]; simp), hl]
  rfl
theorem sign_last {s : ByteArray} {a : Nat} (ha : a < s.size) (h : ¬ a + 1 < s.size) : twoB ((s.data.toList.drop a).take 2) = false := by
  have hn : s.data.toList.length = s.size := rfl
  have hl := List.drop_eq_getElem_cons (l := s.data.toList) (i := a) (by simpa using ha)
  rw [hl, List.drop_eq_nil_of_le (i := a + 1) (by omega)]
  simp [twoB]

/-! ### Tokens of the reference model -/
def cellsR : List Tk → List Value
  | [] => []
  | x :: r => [.int .i64 x.k, .string x.t, .int .i64 x.a] ++ cellsR r
theorem cellsR_append (a b : List Tk) : cellsR (a ++ b) = cellsR a ++ cellsR b := by
  induction a with
  | nil => rfl
  | cons x r ih => simp only [List.cons_append, cellsR, ih, List.nil_append]
theorem cellsR_length (a : List Tk) : (cellsR a).length = a.length * 3 := by
  induction a with
  | nil => rfl
  | cons x r ih => simp only [cellsR, List.length_append, List.length_cons, List.length_nil, ih]; omega
theorem cellsR_at : ∀ (l : List Tk) (i : Nat) (x : Tk), l[i]? = some x → (cellsR l)[i * 3]? = some (.int .i64 x.k) ∧ (cellsR l)[i * 3 + 1]? = some (.string x.t) ∧ (cellsR l)[i * 3 + 2]? = some (.int .i64 x.a)
  | [], i, x, h => by simp at h
  | y :: r, 0, x, h => by
    obtain rfl : y = x := by simpa using h
    exact ⟨rfl, rfl, rfl⟩
  | y :: r, i + 1, x, h => by
    have := cellsR_at r i x (by simpa using h)
    rw [show (i + 1) * 3 = i * 3 + 3 from by omega]
    simpa [cellsR] using this
end Go.Proofs.YtgepfenjbjlgpaaGreatDoor
