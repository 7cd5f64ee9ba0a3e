/- Single words and numbers as sources: plain mathematics. -/
import Derived.Test.YtgepfenjbjlgpaaGreatDoorMa
import Derived.Test.YtgepfenjbjlgpaaGreatDoorRv
import Derived.Lib.ItoaLen
namespace Go.Proofs.YtgepfenjbjlgpaaGreatDoor
open Go.RowKit

theorem word14 (c : Int) (h : wordB c = true) : inB 14 c = true := by
  rw [inB14, inB2, inB4, inB8]
  unfold wordB lowerB upperB digitB at h
  simp only [Bool.or_eq_true, Bool.and_eq_true, decide_eq_true_eq, beq_iff_eq] at h ⊢
  omega
theorem lower10 (c : Int) (h : lowerB c = true) : inB 10 c = true := by
  rw [inB10, inB2]
  unfold lowerB at h
  simp only [Bool.or_eq_true, Bool.and_eq_true, decide_eq_true_eq] at h ⊢
  omega
theorem upper10 (c : Int) (h : upperB c = true) : inB 10 c = true := by
  rw [inB10, inB2]
  unfold upperB at h
  simp only [Bool.or_eq_true, Bool.and_eq_true, decide_eq_true_eq] at h ⊢
  omega
theorem digit14 (c : Int) (h : digitB c = true) : inB 14 c = true := by
  rw [inB14, inB4]
  unfold digitB at h
  simp only [Bool.or_eq_true, Bool.and_eq_true, decide_eq_true_eq] at h ⊢
  omega

/-- A list whose head begins a word, and that holds bytes of words only. -/
def WordL (l : List UInt8) : Prop := (∃ c r, l = c :: r ∧ inB 10 c.toNat = true) ∧ ∀ c ∈ l, inB 14 c.toNat = true
theorem wordL_named {st : Int → Bool} (hst : ∀ c, st c = true → inB 10 c = true) {s : ByteArray} (h : namedB st s = true) : WordL s.data.toList := by
  unfold namedB Lib.trimLeftB at h
  have hsp := List.takeWhile_append_dropWhile (p := (· == (95 : UInt8))) (l := s.data.toList)
  have htw : ∀ c ∈ s.data.toList.takeWhile (· == (95 : UInt8)), c = 95 := fun c hc => by
    have := mem_tw _ _ hc
    simpa using this
  generalize s.data.toList = l at *
  generalize l.takeWhile (· == (95 : UInt8)) = a at *
  cases hd : l.dropWhile (· == (95 : UInt8)) with
  | nil => rw [hd] at h; simp [namedL] at h
  | cons c r =>
    rw [hd] at h hsp
    simp only [namedL, Bool.and_eq_true] at h
    obtain ⟨h1, h2⟩ := h
    unfold allB at h2
    have h2' : ∀ x ∈ c :: r, wordB x.toNat = true := fun x hx => List.all_eq_true.1 h2 x hx
    refine ⟨?_, fun x hx => ?_⟩
    · cases a with
      | nil => exact ⟨c, r, by rw [← hsp]; rfl, hst _ h1⟩
      | cons y z =>
        have := htw y (List.mem_cons_self ..)
        subst this
        exact ⟨95, z ++ c :: r, by rw [← hsp]; rfl, by decide +kernel⟩
    · rw [← hsp] at hx
      rcases List.mem_append.1 hx with h3 | h3
      · rw [htw x h3]; decide +kernel
      · exact word14 _ (h2' x h3)
theorem wordL_anon {s : ByteArray} (h : anonB s = true) : WordL s.data.toList := by
  rw [anon_eq, Bool.and_eq_true] at h
  obtain ⟨h1, h2⟩ := h
  have h1' := of_decide_eq_true h1
  generalize s.data.toList = l at *
  cases l with
  | nil => simp [undN] at h1'
  | cons c r =>
    have hc : c = 95 := by
      apply Decidable.byContradiction; intro hn
      have : undN (c :: r) = 0 := by unfold undN; rw [List.takeWhile_cons, if_neg (by simpa using hn)]; rfl
      omega
    subst hc
    refine ⟨⟨95, r, rfl, by decide +kernel⟩, fun x hx => ?_⟩
    rcases List.mem_cons.1 hx with h3 | h3
    · rw [h3]; decide +kernel
    · exact digit14 _ (List.all_eq_true.1 h2 x h3)
theorem not_list {s : ByteArray} (h : notB s = true) : s = ⟨#[110, 111, 116]⟩ := by
  unfold notB at h
  rw [toList_data] at h
  have h1 : s.data.toList = [110, 111, 116] := by simpa using h
  cases s with
  | mk d => congr; exact Array.toList_inj.1 h1
theorem wordL_of {s : ByteArray} (h : (notB s || (symbolB s || variableB s)) = true) : WordL s.data.toList := by
  rw [Bool.or_eq_true, Bool.or_eq_true] at h
  rcases h with h | h | h
  · rw [not_list h]
    exact ⟨⟨110, [111, 116], rfl, by decide +kernel⟩, by decide +kernel⟩
  · unfold symbolB at h
    rw [Bool.and_eq_true] at h
    exact wordL_named lower10 h.2
  · unfold variableB at h
    rw [Bool.and_eq_true, Bool.or_eq_true] at h
    rcases h.2 with h2 | h2
    · exact wordL_named upper10 h2
    · exact wordL_anon h2

theorem run_all {p : Int → Bool} {s : ByteArray} {a : Nat} (ha : a ≤ s.size) (h : ∀ c ∈ s.data.toList.drop a, p c.toNat = true) : runN p s a = s.size := by
  have h1 : (s.data.toList.drop a).takeWhile (fun b => p b.toNat) = s.data.toList.drop a := by
    generalize s.data.toList.drop a = l at h ⊢
    induction l with
    | nil => rfl
    | cons x r ih => rw [List.takeWhile_cons, if_pos (h x (List.mem_cons_self ..)), ih (fun c hc => h c (List.mem_cons_of_mem _ hc))]
  unfold runN
  rw [h1, List.length_drop]
  show a + (s.size - a) = s.size
  omega
theorem ext_whole (s : ByteArray) : s.extract 0 s.size = s := by
  have h : (s.extract 0 s.size).data.toList = s.data.toList := by
    rw [ext_list, List.drop_zero, Nat.sub_zero]
    exact List.take_of_length_le (Nat.le_refl _)
  cases s with
  | mk d =>
    generalize hx : (ByteArray.mk d).extract 0 (ByteArray.mk d).size = y at h ⊢
    cases y with
    | mk e => congr; exact Array.toList_inj.1 h
theorem one_err {s : ByteArray} {x : Tk} (h : lexAll s = [x]) (he : x.e = 0) : lexErr s = none := lexErr_none (by rw [h]; intro y hy; simp at hy; rw [hy]; exact he)

/-- A word is one token. -/
theorem lex_word {s : ByteArray} (h : (notB s || (symbolB s || variableB s)) = true) : lexAll s = [⟨wordK s, s, 0, 0⟩] ∧ lexErr s = none := by
  obtain ⟨⟨c, r, hl, h10⟩, h14⟩ := wordL_of h
  have hsz : 0 < s.size := by show 0 < s.data.toList.length; rw [hl]; simp
  have hb : ∀ p : Int → Bool, begB p s 0 = p c.toNat := fun p => by rw [begB_drop, List.drop_zero, hl]
  have hw : wordE s = 0 := by
    unfold wordE
    rw [Bool.or_assoc, h]; rfl
  have h17 : begB (inB 17) s 0 = false := by
    rw [hb]
    rw [inB10] at h10
    rcases cls_lit (c.toNat : Int) with e | e | e | e | e | e | e <;> (unfold inB at h10 ⊢; rw [e] at h10 ⊢; first | rfl | (revert h10; decide))
  have ht : tokAt s 0 = ⟨wordK s, s, 0, 0⟩ := by
    have hn : tokN s 0 = s.size := by
      unfold tokN
      rw [if_pos (by rw [hb]; exact h10)]
      exact run_all (Nat.zero_le _) (by rw [List.drop_zero]; exact h14)
    unfold tokAt
    rw [hn, ext_whole]
    unfold tkK tkE
    rw [if_pos (by rw [hb]; exact h10), if_pos (by rw [hb]; exact h10), hw]
  have hn : tokN s 0 = s.size := by
    unfold tokN
    rw [if_pos (by rw [hb]; exact h10)]
    exact run_all (Nat.zero_le _) (by rw [List.drop_zero]; exact h14)
  have e : lexAll s = [⟨wordK s, s, 0, 0⟩] := by
    rw [lexR_zero, lexR_tok hsz h17, ht]
    rw [if_pos rfl, hn, lexR_end (by omega)]
  exact ⟨e, one_err e rfl⟩

/-- One token that is the whole source. -/
theorem lex_whole {s : ByteArray} {x : Tk} (h : lexAll s = [x]) (ht : x.t = s) : x = tokAt s 0 := by
  unfold lexAll lexF at h
  split at h
  · rename_i hlt
    have hx : x = tokAt s (skN s 0) := by
      split at h
      · simp at h; exact h.1.symm
      · simp at h; exact h.symm
    have hsz : x.t.size = s.size := by rw [ht]
    rw [hx] at hsz
    have : (s.extract (skN s 0) (tokN s (skN s 0))).size = s.size := hsz
    rw [ByteArray.size_extract] at this
    have h0 : skN s 0 = 0 := by omega
    rw [hx, h0]
  · simp at h
theorem kind_word {s y : ByteArray} {a : Nat} {k : Int} (h : tkK s a y = k) (hk : k = 1 ∨ k = 2 ∨ k = 4) : wordK y = k := by
  unfold tkK at h
  split at h
  · exact h
  · exfalso
    revert h
    unfold numK dirK sigK
    repeat' split
    all_goals (intro h; omega)
theorem word_kinds (y : ByteArray) : (wordK y = 1 → symbolB y = true) ∧ (wordK y = 2 → variableB y = true) ∧ (wordK y = 4 → notB y = true) := by
  unfold wordK
  cases notB y <;> cases symbolB y <;> cases variableB y <;> simp
theorem lex_no_word {s : ByteArray} (h : (notB s || (symbolB s || variableB s)) = false) {x : Tk} (hl : lexAll s = [x]) (ht : x.t = s) : x.k ≠ 1 ∧ x.k ≠ 2 ∧ x.k ≠ 4 := by
  have hx := lex_whole hl ht
  have hk : x.k = tkK s 0 x.t := by rw [hx]; rfl
  rw [ht] at hk
  simp only [Bool.or_eq_false_iff] at h
  obtain ⟨h1, h2, h3⟩ := word_kinds s
  refine ⟨fun e => ?_, fun e => ?_, fun e => ?_⟩
  · have := h1 (kind_word (hk.symm.trans e) (.inl rfl)); rw [h.2.1] at this; cases this
  · have := h2 (kind_word (hk.symm.trans e) (.inr (.inl rfl))); rw [h.2.2] at this; cases this
  · have := h3 (kind_word (hk.symm.trans e) (.inr (.inr rfl))); rw [h.1] at this; cases this

/-- The kinds of words exclude each other. -/
theorem not_only {s : ByteArray} (h : notB s = true) : symbolB s = false ∧ variableB s = false := by
  rw [not_list h]; exact ⟨by decide +kernel, by decide +kernel⟩
theorem low_up (c : Int) : lowerB c = true → upperB c = true → False := by
  unfold lowerB upperB
  simp only [Bool.and_eq_true, decide_eq_true_eq]
  omega
theorem low_dig (c : Int) : lowerB c = true → digitB c = true → False := by
  unfold lowerB digitB
  simp only [Bool.and_eq_true, decide_eq_true_eq]
  omega
theorem symbol_only {s : ByteArray} (h : symbolB s = true) : variableB s = false ∧ notB s = false := by
  refine ⟨?_, ?_⟩
  · rw [Bool.eq_false_iff]
    intro hv
    unfold symbolB at h
    unfold variableB at hv
    rw [Bool.and_eq_true] at h
    rw [Bool.and_eq_true, Bool.or_eq_true] at hv
    have hn := h.2
    rcases hv.2 with h2 | h2
    · unfold namedB at hn h2
      generalize Lib.trimLeftB s.data.toList 95 = l at hn h2
      cases l with
      | nil => simp [namedL] at hn
      | cons c r =>
        simp only [namedL, Bool.and_eq_true] at hn h2
        exact low_up _ hn.1 h2.1
    · have ha : anonB s = true := h2
      rw [anon_eq, Bool.and_eq_true] at ha
      have h1' := of_decide_eq_true ha.1
      have h2' := ha.2
      unfold namedB Lib.trimLeftB at hn
      generalize s.data.toList = l at *
      cases l with
      | nil => simp [undN] at h1'
      | cons c r =>
        have hc : c = 95 := by
          apply Decidable.byContradiction; intro hne
          have : undN (c :: r) = 0 := by unfold undN; rw [List.takeWhile_cons, if_neg (by simpa using hne)]; rfl
          omega
        subst hc
        rw [List.dropWhile_cons, if_pos (by rfl)] at hn
        cases hd : r.dropWhile (· == (95 : UInt8)) with
        | nil => rw [hd] at hn; simp [namedL] at hn
        | cons d q =>
          rw [hd] at hn
          simp only [namedL, Bool.and_eq_true] at hn
          have hm : d ∈ r := (List.dropWhile_sublist (· == (95 : UInt8))).subset (by rw [hd]; exact List.mem_cons_self ..)
          exact low_dig _ hn.1 (List.all_eq_true.1 h2' d hm)
  · rw [Bool.eq_false_iff]
    intro hn
    have := (not_only hn).1
    rw [h] at this; cases this

/-! ### Numbers -/
theorem dec_ne (u : Nat) : Lib.decDigits u ≠ [] := by
  intro h
  have h1 := congrArg List.length h
  rw [Lib.decDigits_length, List.length_nil] at h1
  have h2 := Lib.nDigits_pos u
  omega
theorem dig_nat {d : Nat} (h : d < 10) : (UInt8.ofNat (48 + d)).toNat = 48 + d := by
  rw [UInt8.toNat_ofNat']; exact Nat.mod_eq_of_lt (by omega)
theorem dec_all (u : Nat) : ∀ c ∈ Lib.decDigits u, inB 4 c.toNat = true := by
  induction u using Nat.strongRecOn with
  | _ u ih =>
    intro c hc
    rw [Lib.decDigits] at hc
    split at hc
    · rename_i h
      have : c = UInt8.ofNat (48 + u) := by simpa using hc
      rw [this, inB4, dig_nat h]
      simp only [Bool.and_eq_true, decide_eq_true_eq]; omega
    · rcases List.mem_append.1 hc with h1 | h1
      · exact ih (u / 10) (by omega) c h1
      · have : c = UInt8.ofNat (48 + u % 10) := by simpa using h1
        rw [this, inB4, dig_nat (Nat.mod_lt _ (by omega))]
        simp only [Bool.and_eq_true, decide_eq_true_eq]; omega
theorem dec_val (u : Nat) : u ≤ 2147483647 → ∀ r, Lib.parseUintM (2 ^ 64 - 1) 0 (Lib.decDigits u ++ r) = Lib.parseUintM (2 ^ 64 - 1) u r := by
  induction u using Nat.strongRecOn with
  | _ u ih =>
    intro hu r
    have hall := dec_all u
    rw [Lib.decDigits] at hall ⊢
    split
    · rename_i h
      rw [dif_pos h] at hall
      rw [List.singleton_append, uint_step (hall _ (List.mem_singleton.2 rfl)) (by omega), dig_nat h]
      congr 1; omega
    · rename_i h
      rw [dif_neg h] at hall
      rw [List.append_assoc, ih (u / 10) (by omega) (by omega), List.singleton_append, uint_step (hall _ (List.mem_append_right _ (List.mem_singleton.2 rfl))) (by omega), dig_nat (Nat.mod_lt _ (by omega))]
      congr 1; omega
theorem dec_head (u : Nat) : 1 ≤ u → ∃ c r, Lib.decDigits u = c :: r ∧ c ≠ 48 := by
  induction u using Nat.strongRecOn with
  | _ u ih =>
    intro h1
    rw [Lib.decDigits]
    split
    · rename_i h
      refine ⟨_, [], rfl, fun e => ?_⟩
      have := congrArg UInt8.toNat e
      rw [dig_nat h] at this
      have h48 : (48 : UInt8).toNat = 48 := rfl
      omega
    · obtain ⟨c, r, hc, hn⟩ := ih (u / 10) (by omega) (by omega)
      exact ⟨c, r ++ _, by rw [hc]; rfl, hn⟩
def decB (u : Nat) : ByteArray := ⟨(Lib.decDigits u).toArray⟩
theorem decB_list (u : Nat) : (decB u).data.toList = Lib.decDigits u := by unfold decB; simp
theorem decB_pos (u : Nat) : 0 < (decB u).size := by
  show 0 < (decB u).data.toList.length
  rw [decB_list]
  exact List.length_pos_iff.2 (dec_ne u)
theorem decB_num {u : Nat} (hu : u ≤ 2147483647) : numB (decB u) = true := by
  refine num_good (acc := u) (decB_pos u) (by rw [decB_list]; exact dec_all u) ?_ hu ?_
  · have := dec_val u hu []
    rw [List.append_nil] at this
    rw [decB_list]; exact this
  · by_cases h0 : u = 0
    · subst h0
      refine .inl ?_
      show ¬ 1 < (decB 0).data.toList.length
      rw [decB_list, Lib.decDigits_length, Lib.nDigits_small (by omega)]; omega
    · obtain ⟨c, r, hc, hn⟩ := dec_head u (by omega)
      refine .inr ?_
      have h1 : (decB u).data.toList[0]'(by rw [decB_list, hc]; simp) = c := by simp only [decB_list, hc]; rfl
      intro e
      exact hn (h1.symm.trans e)
/-- A digit ahead: the token is a number. -/
theorem num_tok {s : ByteArray} {a : Nat} (ha : a < s.size) (h : ∀ c ∈ s.data.toList.drop a, inB 4 c.toNat = true) (hn : numB (s.extract a s.size) = true) :
    lexR s a = [⟨3, s.extract a s.size, a, 0⟩] := by
  have hl := List.drop_eq_getElem_cons (l := s.data.toList) (i := a) (by simpa using ha)
  have hc : inB 4 (s.data.toList[a]'(by simpa using ha)).toNat = true := h _ (by rw [hl]; exact List.mem_cons_self ..)
  have hb : ∀ p : Int → Bool, begB p s a = p (s.data.toList[a]'(by simpa using ha)).toNat := fun p => by rw [begB_drop, hl]
  have h4 : clsI (s.data.toList[a]'(by simpa using ha)).toNat = 4 := by
    unfold inB at hc
    rcases cls_lit ((s.data.toList[a]'(by simpa using ha)).toNat : Int) with e | e | e | e | e | e | e <;> first | exact e | (rw [e] at hc; exact absurd hc (by decide))
  have hcl : ∀ k, inB k (s.data.toList[a]'(by simpa using ha)).toNat = (bits BinOp.and IntKind.u8 4 k != 0) := fun k => by
    unfold inB; rw [h4]
  have b4 : begB (inB 4) s a = true := by rw [hb]; exact hc
  have b10 : begB (inB 10) s a = false := by rw [hb, hcl]; decide +kernel
  have b17 : begB (inB 17) s a = false := by rw [hb, hcl]; decide +kernel
  have htn : tokN s a = s.size := by
    unfold tokN
    simp only [b10, b4, reduceIte, Bool.false_eq_true]
    exact run_all (by omega) h
  have htk : tokAt s a = ⟨3, s.extract a s.size, a, 0⟩ := by
    unfold tokAt
    rw [htn]
    unfold tkK tkE
    simp only [b10, b4, reduceIte, Bool.false_eq_true]
    unfold numK numE
    rw [hn]; rfl
  rw [lexR_tok ha b17, htk]
  rw [if_pos rfl, htn, lexR_end (by omega)]
theorem lex_dec {u : Nat} (hu : u ≤ 2147483647) : lexAll (decB u) = [⟨3, decB u, 0, 0⟩] ∧ lexErr (decB u) = none := by
  have e : lexAll (decB u) = [⟨3, decB u, 0, 0⟩] := by
    rw [lexR_zero, num_tok (decB_pos u) (by rw [List.drop_zero, decB_list]; exact dec_all u) (by rw [ext_whole]; exact decB_num hu), ext_whole]
  exact ⟨e, one_err e rfl⟩
def negB (u : Nat) : ByteArray := ⟨(45 :: Lib.decDigits u).toArray⟩
theorem negB_list (u : Nat) : (negB u).data.toList = 45 :: Lib.decDigits u := by unfold negB; simp
theorem negB_size (u : Nat) : (negB u).size = (Lib.decDigits u).length + 1 := by
  show (negB u).data.toList.length = _
  rw [negB_list]; rfl
theorem two_minus (l : List UInt8) : twoB ((45 :: l).take 2) = false := by
  cases l with
  | nil => rfl
  | cons c r => simp [twoB]
theorem lex_neg {u : Nat} (hu : u ≤ 2147483647) : ∃ y z : Tk, lexAll (negB u) = [y, z] ∧ lexErr (negB u) = none ∧ y.t = ⟨#[45]⟩ ∧ z.k = 3 := by
  have hne := dec_ne u
  have hpos : 0 < (Lib.decDigits u).length := List.length_pos_iff.2 hne
  have hsz := negB_size u
  have hb : ∀ p : Int → Bool, begB p (negB u) 0 = p 45 := fun p => by rw [begB_drop, List.drop_zero, negB_list]; rfl
  have b17 : begB (inB 17) (negB u) 0 = false := by rw [hb]; rfl
  have b10 : begB (inB 10) (negB u) 0 = false := by rw [hb]; rfl
  have b4 : begB (inB 4) (negB u) 0 = false := by rw [hb]; rfl
  have b32 : begB (inB 32) (negB u) 0 = false := by rw [hb]; rfl
  have hsl : signL ((negB u).data.toList.drop 0) = 1 := by
    rw [List.drop_zero, negB_list]
    unfold signL
    rw [two_minus]
    rfl
  have htn : tokN (negB u) 0 = 1 := by
    unfold tokN
    simp only [b10, b4, b32, reduceIte, Bool.false_eq_true, hsl]
  have hx : (negB u).extract 0 1 = ⟨#[45]⟩ := by
    have h1 : ((negB u).extract 0 1).data.toList = [45] := by
      rw [ext_list, List.drop_zero, negB_list]; rfl
    generalize (negB u).extract 0 1 = y at h1 ⊢
    cases y with
    | mk e => congr; exact Array.toList_inj.1 h1
  have htk : tokAt (negB u) 0 = ⟨6, ⟨#[45]⟩, 0, 0⟩ := by
    unfold tokAt
    rw [htn, hx]
    unfold tkK tkE
    simp only [b10, b4, b32, reduceIte, Bool.false_eq_true]
    rw [show sigK ⟨#[45]⟩ = 6 by decide +kernel, show sigE ⟨#[45]⟩ = 0 by decide +kernel]
  have hx1 : (negB u).extract 1 (negB u).size = decB u := by
    have h1 : ((negB u).extract 1 (negB u).size).data.toList = (decB u).data.toList := by
      rw [ext_list, decB_list, negB_list, hsz]
      simp
    generalize (negB u).extract 1 (negB u).size = y at h1 ⊢
    cases y with
    | mk e => unfold decB; congr; exact Array.toList_inj.1 (h1.trans (decB_list u))
  have hr := num_tok (s := negB u) (a := 1) (by omega) (by rw [negB_list]; exact dec_all u) (by rw [hx1]; exact decB_num hu)
  have e : lexAll (negB u) = [⟨6, ⟨#[45]⟩, 0, 0⟩, ⟨3, (negB u).extract 1 (negB u).size, 1, 0⟩] := by
    rw [lexR_zero, lexR_tok (by omega) b17, htk]
    rw [if_pos rfl, htn, hr]
  refine ⟨_, _, e, lexErr_none ?_, rfl, rfl⟩
  rw [e]
  intro y hy
  rcases List.mem_cons.1 hy with h | h
  · rw [h]
  · have h2 : y = ⟨3, (negB u).extract 1 (negB u).size, 1, 0⟩ := by simpa using h
    rw [h2]
end Go.Proofs.YtgepfenjbjlgpaaGreatDoor
