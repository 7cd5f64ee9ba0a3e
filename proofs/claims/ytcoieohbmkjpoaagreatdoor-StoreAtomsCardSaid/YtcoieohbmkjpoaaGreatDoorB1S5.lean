/- The reference model: names. -/
import Derived.Test.YtcoieohbmkjpoaaGreatDoorB1b
namespace Go.Proofs.YtcoieohbmkjpoaaGreatDoor
open Go.RowKit

set_option maxHeartbeats 400000 in
theorem rlower_any (c : Int) (w : World) :
    Calls Tryz.prog 75 #[.int .u8 c] w fun e w' => e = .returned (.bool (lowerB c)) ∧ w = w' := by
  by_cases h1 : 97 ≤ c <;> by_cases h2 : c ≤ 122
  all_goals
    go_enter Tryz.func75, Tryz.ntmps75
    go_wp2
    go_ret
    exact ⟨by unfold lowerB; first | (rw [decide_eq_true (by omega)]; simp; done) | (rw [decide_eq_false (by omega)]; simp; done) | (simp [h1, h2]; done) | (simp; omega), rfl⟩
set_option maxHeartbeats 400000 in
theorem rupper_any (c : Int) (w : World) :
    Calls Tryz.prog 109 #[.int .u8 c] w fun e w' => e = .returned (.bool (upperB c)) ∧ w = w' := by
  by_cases h1 : 65 ≤ c <;> by_cases h2 : c ≤ 90
  all_goals
    go_enter Tryz.func109, Tryz.ntmps109
    go_wp2
    go_ret
    exact ⟨by unfold upperB; first | (rw [decide_eq_true (by omega)]; simp; done) | (rw [decide_eq_false (by omega)]; simp; done) | (simp [h1, h2]; done) | (simp; omega), rfl⟩
set_option maxHeartbeats 400000 in
theorem rdigit_any (c : Int) (w : World) :
    Calls Tryz.prog 110 #[.int .u8 c] w fun e w' => e = .returned (.bool (digitB c)) ∧ w = w' := by
  by_cases h1 : 48 ≤ c <;> by_cases h2 : c ≤ 57
  all_goals
    go_enter Tryz.func110, Tryz.ntmps110
    go_wp2
    go_ret
    exact ⟨by unfold digitB; first | (rw [decide_eq_true (by omega)]; simp; done) | (rw [decide_eq_false (by omega)]; simp; done) | (simp [h1, h2]; done) | (simp; omega), rfl⟩

theorem undN_le (l : List UInt8) : undN l ≤ l.length := (List.takeWhile_prefix _).length_le
theorem drop_undN : ∀ l : List UInt8, l.drop (undN l) = l.dropWhile (· == 95)
  | [] => rfl
  | c :: r => by
    have := drop_undN r
    unfold undN at *
    cases h : (c == 95)
    · simp [h]
    · simp [h, this]
theorem undN_step {l : List UInt8} {k : Nat} (hk : k < l.length) (h : l[k] = 95) (hr : undN l = k + undN (l.drop k)) : undN l = (k + 1) + undN (l.drop (k + 1)) := by
  have hb : (l[k] == 95) = true := by rw [h]; rfl
  rw [hr, List.drop_eq_getElem_cons hk]
  unfold undN
  rw [List.takeWhile_cons, if_pos hb, List.length_cons]
  omega
theorem undN_stop {l : List UInt8} {k : Nat} (hk : k < l.length) (h : l[k] ≠ 95) (hr : undN l = k + undN (l.drop k)) : undN l = k := by
  have hb : ¬ (l[k] == 95) = true := by simpa using h
  rw [hr, List.drop_eq_getElem_cons hk]
  unfold undN
  rw [List.takeWhile_cons, if_neg hb]
  rfl
theorem undN_end {l : List UInt8} {k : Nat} (hk : ¬ k < l.length) (hr : undN l = k + undN (l.drop k)) : undN l = k := by
  rw [hr, List.drop_eq_nil_of_le (by omega)]
  rfl

set_option maxHeartbeats 800000 in
theorem runder_any (s : ByteArray) (w : World) (hs : s.size ≤ maxLen) :
    Calls Tryz.prog 74 #[.string s] w fun e w' => e = .returned (.int .i64 (undN s.data.toList)) ∧ w = w' := by
  unfold maxLen at hs
  go_enter Tryz.func74, Tryz.ntmps74
  go_wp2
  go_loop [3] (fun i => ∃ k : Nat, k ≤ s.size ∧ i = .int .i64 k ∧ undN s.data.toList = k + undN (s.data.toList.drop k)) (fun i => s.size - (intOf i).toNat)
  case atStart => exact ⟨0, Nat.zero_le _, rfl, by simp⟩
  case round =>
    obtain ⟨k, hk, rfl, hr⟩ := hrel
    have hl : s.data.toList.length = s.size := by simp
    by_cases hlt : k < s.size
    · have hkl : k < s.data.toList.length := by rw [hl]; exact hlt
      have hg : s.data.toList[k]'hkl = s[k] := rfl
      by_cases h9 : s[k] = 95
      · have HS := Lib.hid (undN_step hkl (hg.trans h9) hr); clear hr
        have h95 : (s[k].toNat : Int) = 95 := by rw [h9]; rfl
        go_wp2
        go_round
        case rel => exact ⟨k + 1, by omega, by go_num, HS.out⟩
        case measure => simp [intOf]; omega
      · have HS := Lib.hid (undN_stop hkl (fun e => h9 (hg.symm.trans e)) hr); clear hr
        have h95 : ((s[k].toNat : Int) == 95) = false := by
          rw [beq_eq_false_iff_ne]; intro e; apply h9
          apply UInt8.toNat_inj.1; show s[k].toNat = 95; omega
        go_wp2
        go_ret
        exact ⟨by rw [HS.out]; rfl, rfl⟩
    · have HS := Lib.hid (undN_end (by rw [hl]; exact hlt) hr); clear hr
      go_wp2
      go_ret
      exact ⟨by rw [HS.out]; rfl, rfl⟩
def rwordB (s : ByteArray) (n : Nat) : Bool := ((s.data.toList.drop n).all fun b => wordB b.toNat) && decide (s.size ≤ 32)
theorem all_drop {l : List UInt8} {p : UInt8 → Bool} {k : Nat} (hk : k < l.length) : (l.drop k).all p = (p l[k] && (l.drop (k + 1)).all p) := by
  rw [List.drop_eq_getElem_cons hk, List.all_cons]

set_option maxHeartbeats 4000000 in
theorem rword_any (s : ByteArray) (n : Nat) (w : World) (hs : s.size ≤ maxLen) (hn : n ≤ s.size) :
    Calls Tryz.prog 76 #[.string s, .int .i64 n] w fun e w' => e = .returned (.bool (rwordB s n)) ∧ w = w' := by
  unfold maxLen at hs
  have hR : rwordB s n = (((s.data.toList.drop n).all fun b => wordB b.toNat) && decide (s.size ≤ 32)) := rfl
  have HD := Lib.hid hR; clear hR
  go_enter Tryz.func76, Tryz.ntmps76
  go_wp2
  go_loop [5] (fun i => ∃ k : Nat, n ≤ k ∧ k ≤ s.size ∧ i = .int .i64 k ∧ ((s.data.toList.drop n).all fun b => wordB b.toNat) = ((s.data.toList.drop k).all fun b => wordB b.toNat)) (fun i => s.size - (intOf i).toNat)
  case atStart => exact ⟨n, Nat.le_refl _, hn, rfl, rfl⟩
  case round =>
    obtain ⟨k, hnk, hk, rfl, hr⟩ := hrel
    have hl : s.data.toList.length = s.size := by simp
    by_cases hlt : k < s.size
    · have hkl : k < s.data.toList.length := by rw [hl]; exact hlt
      have hg : s.data.toList[k]'hkl = s[k] := rfl
      rw [all_drop hkl, hg] at hr
      have hw : wordB s[k].toNat = (lowerB s[k].toNat || upperB s[k].toNat || digitB s[k].toNat || decide ((s[k].toNat : Int) = 95)) := rfl
      have HR := Lib.hid hr; clear hr
      by_cases h4 : (s[k].toNat : Int) = 95
      · have HW := Lib.hid (show wordB s[k].toNat = true by rw [hw, h4]; rfl); clear hw
        have e1 : lowerB 95 = false := rfl
        have e2 : upperB 95 = false := rfl
        have e3 : digitB 95 = false := rfl
        go_wp2_with (first
          | (go_at_call 75; refine (rlower_any _ _).mono ?_; rintro e w' ⟨rfl, rfl⟩)
          | (go_at_call 109; refine (rupper_any _ _).mono ?_; rintro e w' ⟨rfl, rfl⟩)
          | (go_at_call 110; refine (rdigit_any _ _).mono ?_; rintro e w' ⟨rfl, rfl⟩))
        go_round
        case rel => exact ⟨k + 1, by omega, by omega, by go_num, by rw [HR.out, HW.out]; rfl⟩
        case measure => simp [intOf]; omega
      have h5 : ((s[k].toNat : Int) == 95) = false := by simpa using h4
      cases h1 : lowerB s[k].toNat <;> cases h2 : upperB s[k].toNat <;> cases h3 : digitB s[k].toNat
      all_goals
        simp only [h1, h2, h3, h4, Bool.or_true, Bool.or_false, decide_false] at hw
        have HW := Lib.hid hw; clear hw
        go_wp2_with (first
          | (go_at_call 75; refine (rlower_any _ _).mono ?_; rintro e w' ⟨rfl, rfl⟩)
          | (go_at_call 109; refine (rupper_any _ _).mono ?_; rintro e w' ⟨rfl, rfl⟩)
          | (go_at_call 110; refine (rdigit_any _ _).mono ?_; rintro e w' ⟨rfl, rfl⟩))
        first
          | (go_round
             case rel => exact ⟨k + 1, by omega, by omega, by go_num, by rw [HR.out, HW.out]; rfl⟩
             case measure => simp [intOf]; omega)
          | (go_ret
             exact ⟨by rw [HD.out, HR.out, HW.out]; rfl, rfl⟩)
    · have hz : s.data.toList.drop k = [] := List.drop_eq_nil_of_le (by rw [hl]; omega)
      rw [hz] at hr
      have HR := Lib.hid hr; clear hr
      by_cases h32 : s.size ≤ 32
      all_goals
        have H32 := Lib.hid h32
        go_wp2
        go_ret
        exact ⟨by rw [HD.out, HR.out]; first | (rw [decide_eq_true (by omega : (s.size : Int) ≤ 32), decide_eq_true h32]; rfl) | (rw [decide_eq_false (by omega : ¬ (s.size : Int) ≤ 32), decide_eq_false h32]; rfl) | (simp [h32]; omega), rfl⟩
theorem rword_named {st : Int → Bool} {s : ByteArray} : namedB st s = match s.data.toList.drop (undN s.data.toList) with
    | [] => false
    | c :: _ => st c.toNat && (s.data.toList.drop (undN s.data.toList)).all fun b => wordB b.toNat := by
  unfold namedB Lib.trimLeftB
  rw [drop_undN]
  cases s.data.toList.dropWhile (· == 95) with
  | nil => rfl
  | cons c r => simp [namedL, allB]

set_option maxHeartbeats 2000000 in
theorem rsymbol_any (s : ByteArray) (w : World) (hs : s.size ≤ maxLen) :
    Calls Tryz.prog 41 #[.string s] w fun e w' => e = .returned (.bool (symbolB s)) ∧ w = w' := by
  have hl : s.data.toList.length = s.size := by simp
  obtain ⟨n, hn⟩ : ∃ n, undN s.data.toList = n := ⟨_, rfl⟩
  have hle : n ≤ s.size := by rw [← hn, ← hl]; exact undN_le _
  have hd : symbolB s = (decide (s.size ≤ 32) && !(s.toList == [110, 111, 116]) && namedB lowerB s) := rfl
  rw [rword_named, hn] at hd
  have HS := Lib.hid hs
  have HWD := Lib.hid (rword_any s n w hs hle)
  have hu := runder_any s w hs
  rw [hn] at hu
  have HU := Lib.hid hu
  clear hu
  have hR : rwordB s n = (((s.data.toList.drop n).all fun b => wordB b.toNat) && decide (s.size ≤ 32)) := rfl
  unfold maxLen at hs
  by_cases hlt : n < s.size
  · have hkl : n < s.data.toList.length := by rw [hl]; exact hlt
    have hg : s.data.toList[n]'hkl = s[n] := rfl
    have hc : (match s.data.toList.drop n with
      | [] => false
      | c :: _ => lowerB c.toNat && (s.data.toList.drop n).all fun b => wordB b.toNat) = (lowerB s[n].toNat && (s.data.toList.drop n).all fun b => wordB b.toNat) := by
      rw [List.drop_eq_getElem_cons hkl, hg]
    rw [hc] at hd
    clear hc hg
    cases h1 : lowerB s[n].toNat <;> cases h2 : ((s.data.toList.drop n).all fun b => wordB b.toNat) <;> by_cases h3 : s.size ≤ 32 <;> cases h4 : (s.toList == [110, 111, 116])
    all_goals
      rw [h2] at hR
      rw [h1, h2, h4] at hd
      first | rw [decide_eq_true h3] at hR hd | rw [decide_eq_false h3] at hR hd
      have HD := Lib.hid hd
      have HR := Lib.hid hR
      have H3 := Lib.hid h3
      clear hd hR h2 h3
      go_enter Tryz.func41, Tryz.ntmps41
      go_wp2_with (first
        | (go_at_call 74; refine HU.out.mono ?_; rintro e w' ⟨rfl, rfl⟩)
        | (go_at_call 75; refine (rlower_any _ _).mono ?_; rintro e w' ⟨rfl, rfl⟩)
        | (go_at_call 76; refine HWD.out.mono ?_; rintro e w' ⟨rfl, rfl⟩; rw [HR.out]))
      go_ret
      exact ⟨by rw [HD.out]; rfl, rfl⟩
  · have hz : s.data.toList.drop n = [] := List.drop_eq_nil_of_le (by rw [hl]; omega)
    rw [hz] at hd
    have HD := Lib.hid hd
    clear hd hz hR HWD
    go_enter Tryz.func41, Tryz.ntmps41
    go_wp2_with (go_at_call 74; refine HU.out.mono ?_; rintro e w' ⟨rfl, rfl⟩)
    go_ret
    exact ⟨by rw [HD.out]; simp, rfl⟩
end Go.Proofs.YtcoieohbmkjpoaaGreatDoor
