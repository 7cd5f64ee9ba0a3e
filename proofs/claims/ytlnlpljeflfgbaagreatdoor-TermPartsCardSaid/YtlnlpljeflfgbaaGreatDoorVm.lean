/- The law of values: its mathematics. -/
import Derived.Test.YtlnlpljeflfgbaaGreatDoorOr
import Derived.Test.YtlnlpljeflfgbaaGreatDoorHp
namespace Go.Proofs.YtlnlpljeflfgbaaGreatDoor

theorem orI_zero_l (b : Int) : orI 0 b = b := rfl
theorem orI_zero_r (a : Int) : orI a 0 = a := by unfold orI; split <;> simp_all
theorem orI_self (a : Int) : orI a a = a := by unfold orI; split <;> rfl
theorem compareInt_self (a : Int) : Lib.compareInt a a = 0 := int_zero.2 rfl
theorem strCmp_self (s : ByteArray) : strCmp s s = 0 := by rw [strCmp_eq]; exact byC_zero.2 rfl
theorem cmp_nums (m n : Int) : Tm.cmp (tNum m) (tNum n) = Lib.compareInt m n := by
  unfold tNum
  rw [cmp_or, compareInt_self, orI_zero_l, if_pos rfl, compareInt_self, orI_zero_l, strCmp_self, orI_zero_l]
  simp only [Tm.cmpL, orI_zero_l, orI_self]
theorem cmp_syms (s t : ByteArray) : Tm.cmp (tSym s) (tSym t) = strCmp s t := by
  unfold tSym
  rw [cmp_or, compareInt_self, orI_zero_l, if_neg (by omega), orI_zero_l, compareInt_self, orI_zero_l, compareInt_self]
  simp only [Tm.cmpL, orI_zero_r]
theorem cmp_num_sym (m : Int) (s : ByteArray) : Tm.cmp (tNum m) (tSym s) = -1 := by
  unfold tNum tSym
  rw [cmp_or]
  rfl
theorem cmp_sym_fun (s t : ByteArray) (us : List Tm) : Tm.cmp (tSym s) (tFun t us) = -1 := by
  unfold tSym tFun
  rw [cmp_or]
  rfl
theorem cmp_funs (s t : ByteArray) (us us' : List Tm) : Tm.cmp (tFun s us) (tFun t us') = orI (Lib.compareInt us.length us'.length) (orI (strCmp s t) (Tm.cmpL us us')) := by
  unfold tFun
  rw [cmp_or, compareInt_self, orI_zero_l, if_neg (by omega), orI_zero_l, compareInt_self, orI_zero_r]

/-- What want has come to at round j, where L is the sign of the lengths and the name. -/
structure Want (us us' : List Tm) (T : Int) (j : Nat) (x : Int) : Prop where
  le : j ≤ us.length
  total : T = orI x (Tm.cmpL (us.drop j) (us'.drop j))
  lens : x = 0 → us.length = us'.length
theorem Want.start {us us' : List Tm} {b x : Int} (hx : x = orI (Lib.compareInt us.length us'.length) b) : Want us us' (orI (Lib.compareInt us.length us'.length) (orI b (Tm.cmpL us us'))) 0 x := by
  refine ⟨Nat.zero_le _, ?_, fun h => ?_⟩
  · rw [hx]
    simp only [List.drop_zero]
    by_cases h : Lib.compareInt us.length us'.length = 0
    · rw [orI_r h, orI_r h]
    · rw [orI_l h, orI_l (b := b) h, orI_l h]
  · rw [hx] at h
    have := int_zero.1 (orI_zero.1 h).1
    omega
theorem Want.next {us us' : List Tm} {T : Int} {j : Nat} (h : Want us us' T j 0) (hj : j < us.length) (hj' : j < us'.length) : Want us us' T (j + 1) (Tm.cmp us[j] us'[j]) := by
  refine ⟨hj, ?_, fun _ => h.lens rfl⟩
  rw [h.total, orI_zero_l, List.drop_eq_getElem_cons hj, List.drop_eq_getElem_cons hj', cmpL_cons]
theorem Want.stop {us us' : List Tm} {T x : Int} {j : Nat} (h : Want us us' T j x) (hs : x ≠ 0 ∨ us.length ≤ j ∨ us'.length ≤ j) : T = x := by
  rw [h.total]
  by_cases hx : x = 0
  · have hl := h.lens hx
    have := h.le
    have h1 : us.drop j = [] := List.drop_eq_nil_of_le (by omega)
    have h2 : us'.drop j = [] := List.drop_eq_nil_of_le (by omega)
    rw [h1, h2]
    simp only [Tm.cmpL]
    exact orI_zero_r x
  · exact orI_l hx

theorem rises_two (m : Int) (s : ByteArray) : ∀ i (h : i + 1 < [tNum m, tSym s].length), Tm.cmp [tNum m, tSym s][i] [tNum m, tSym s][i + 1] = -1
  | 0, _ => cmp_num_sym m s
  | _ + 1, h => absurd h (by simp)
theorem rises_tri (m : Int) (s t : ByteArray) (us : List Tm) : ∀ i (h : i + 1 < [tNum m, tSym s, tFun t us].length), Tm.cmp [tNum m, tSym s, tFun t us][i] [tNum m, tSym s, tFun t us][i + 1] = -1
  | 0, _ => cmp_num_sym m s
  | 1, _ => cmp_sym_fun s t us
  | _ + 2, h => absurd h (by simp)
end Go.Proofs.YtlnlpljeflfgbaaGreatDoor
