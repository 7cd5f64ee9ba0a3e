/- The reference model: Variable. -/
import Derived.Test.YtcoieohbmkjpoaaGreatDoorB1S5
namespace Go.Proofs.YtcoieohbmkjpoaaGreatDoor
open Go.RowKit

theorem anon_many (s : ByteArray) (h : undN s.data.toList ≠ 1) : anonB s = false := by
  rw [anon_eq]
  revert h
  generalize s.data.toList = l
  intro h
  match l with
  | [] => rfl
  | [c] =>
    by_cases hc : c = 95
    · subst hc; exact absurd rfl h
    · have h1 : (c == 95) = false := by simpa using hc
      simp [undN, h1]
  | c :: d :: r =>
    by_cases hc : c = 95
    · by_cases hd : d = 95
      · subst hd
        have h9 : digitB 95 = false := rfl
        simp [h9]
      · have h1 : (d == 95) = false := by simpa using hd
        subst hc
        exact absurd (by simp [undN, h1]) h
    · have h1 : (c == 95) = false := by simpa using hc
      simp [undN, h1]
theorem anon_upper (s : ByteArray) (n : Nat) (hn : undN s.data.toList = n) (hk : n < s.data.toList.length) (hu : upperB (s.data.toList[n].toNat) = true) : anonB s = false := by
  by_cases h1 : n = 1
  · rw [anon_eq, hn]
    subst h1
    rw [List.drop_eq_getElem_cons hk, List.all_cons]
    have : digitB (s.data.toList[1].toNat) = false := by
      unfold upperB at hu
      unfold digitB
      simp only [Bool.and_eq_true, decide_eq_true_eq] at hu
      simp only [Bool.and_eq_false_iff, decide_eq_false_iff_not]
      omega
    rw [this]
    simp
  · exact anon_many s (by rw [hn]; exact h1)

theorem named_at {st : Int → Bool} {s : ByteArray} {n : Nat} (hn : undN s.data.toList = n) (hk : n < s.data.toList.length) : namedB st s = (st s.data.toList[n].toNat && (s.data.toList.drop n).all fun b => wordB b.toNat) := by
  rw [rword_named, hn, List.drop_eq_getElem_cons hk]
theorem named_none {st : Int → Bool} {s : ByteArray} {n : Nat} (hn : undN s.data.toList = n) (hz : s.data.toList.drop n = []) : namedB st s = false := by
  rw [rword_named, hn, hz]

set_option maxHeartbeats 4000000 in
theorem rvariable_any (s : ByteArray) (w : World) (hs : s.size ≤ maxLen) :
    Calls Tryz.prog 154 #[.string s] w fun e w' => e = .returned (.bool (variableB s)) ∧ w = w' := by
  have hl : s.data.toList.length = s.size := by simp
  obtain ⟨n, hn⟩ : ∃ n, undN s.data.toList = n := ⟨_, rfl⟩
  have hle : n ≤ s.size := by rw [← hn, ← hl]; exact undN_le _
  have hd : variableB s = (decide (s.size ≤ 32) && (namedB upperB s || anonB s)) := rfl
  have HS := Lib.hid hs
  have HWD := Lib.hid (rword_any s n w hs hle)
  have hu := runder_any s w hs
  rw [hn] at hu
  have HU := Lib.hid hu
  clear hu
  have hR : rwordB s n = (((s.data.toList.drop n).all fun b => wordB b.toNat) && decide (s.size ≤ 32)) := rfl
  unfold maxLen at hs
  have rest : ∀ (hd : variableB s = (decide (s.size ≤ 32) && anonB s)) (hup : ∀ h : n < s.size, upperB s[n].toNat = false),
      Calls Tryz.prog 154 #[.string s] w fun e w' => e = .returned (.bool (variableB s)) ∧ w = w' := by
    intro hd2 hup
    clear hd
    have hd := hd2
    clear hd2
    by_cases h1 : n = 1
    · rw [anon_eq, hn, h1] at hd
      subst h1
      have hd' : variableB s = (decide (s.size ≤ 32) && (s.data.toList.drop 1).all fun b => digitB b.toNat) := by rw [decide_eq_true (Nat.le_refl 1), Bool.true_and] at hd; exact hd
      clear hd hR HWD
      by_cases h32 : s.size ≤ 32
      · rw [decide_eq_true h32, Bool.true_and] at hd'
        have HD := Lib.hid hd'
        clear hd'
        by_cases hlt : 1 < s.size
        all_goals
          first | have hf := hup hlt | skip
          clear hup
          go_enter Tryz.func154, Tryz.ntmps154
          go_wp2_with (first
            | (go_at_call 74; refine HU.out.mono ?_; rintro e w' ⟨rfl, rfl⟩)
            | (go_at_call 109; refine (rupper_any _ _).mono ?_; rintro e w' ⟨rfl, rfl⟩))
          go_loop [4] (fun i => ∃ k : Nat, 1 ≤ k ∧ k ≤ s.size ∧ i = .int .i64 k ∧ ((s.data.toList.drop 1).all fun b => digitB b.toNat) = ((s.data.toList.drop k).all fun b => digitB b.toNat)) (fun i => s.size - (intOf i).toNat)
          case atStart => exact ⟨1, Nat.le_refl _, hle, rfl, rfl⟩
          case round =>
            obtain ⟨k, hnk, hk, rfl, hr⟩ := hrel
            by_cases hlk : k < s.size
            · have hkl : k < s.data.toList.length := by rw [hl]; exact hlk
              have hg : s.data.toList[k]'hkl = s[k] := rfl
              rw [all_drop hkl, hg] at hr
              have HR := Lib.hid hr; clear hr
              cases h1 : digitB s[k].toNat
              · have H1 := Lib.hid h1
                go_wp2_with (go_at_call 110; refine (rdigit_any _ _).mono ?_; rintro e w' ⟨rfl, rfl⟩)
                go_ret
                exact ⟨by rw [HD.out, HR.out, H1.out]; rfl, rfl⟩
              · have H1 := Lib.hid h1
                go_wp2_with (go_at_call 110; refine (rdigit_any _ _).mono ?_; rintro e w' ⟨rfl, rfl⟩)
                go_round
                case rel => exact ⟨k + 1, by omega, by omega, by go_num, by rw [HR.out, H1.out]; rfl⟩
                case measure => simp [intOf]; omega
            · have hz : s.data.toList.drop k = [] := List.drop_eq_nil_of_le (by rw [hl]; omega)
              rw [hz] at hr
              have HR := Lib.hid hr; clear hr
              go_wp2
              go_ret
              exact ⟨by rw [HD.out, HR.out]; rfl, rfl⟩
      · rw [decide_eq_false h32, Bool.false_and] at hd'
        have HD := Lib.hid hd'
        clear hd'
        by_cases hlt : 1 < s.size
        · have hf := hup hlt
          clear hup
          go_enter Tryz.func154, Tryz.ntmps154
          go_wp2_with (first
            | (go_at_call 74; refine HU.out.mono ?_; rintro e w' ⟨rfl, rfl⟩)
            | (go_at_call 109; refine (rupper_any _ _).mono ?_; rintro e w' ⟨rfl, rfl⟩))
          go_ret
          exact ⟨by rw [HD.out]; rfl, rfl⟩
        · exfalso; omega
    · rw [anon_many s (by rw [hn]; exact h1), Bool.and_false] at hd
      have HD := Lib.hid hd
      have h1' : ((n : Int) == 1) = false := by rw [beq_eq_false_iff_ne]; omega
      clear hd hR HWD
      by_cases hlt : n < s.size
      · have hf := hup hlt
        clear hup
        go_enter Tryz.func154, Tryz.ntmps154
        go_wp2_with (first
          | (go_at_call 74; refine HU.out.mono ?_; rintro e w' ⟨rfl, rfl⟩)
          | (go_at_call 109; refine (rupper_any _ _).mono ?_; rintro e w' ⟨rfl, rfl⟩))
        go_ret
        exact ⟨by rw [HD.out]; rfl, rfl⟩
      · clear hup
        go_enter Tryz.func154, Tryz.ntmps154
        go_wp2_with (go_at_call 74; refine HU.out.mono ?_; rintro e w' ⟨rfl, rfl⟩)
        go_ret
        exact ⟨by rw [HD.out]; rfl, rfl⟩
  by_cases hlt : n < s.size
  · have hkl : n < s.data.toList.length := by rw [hl]; exact hlt
    have hg : s.data.toList[n]'hkl = s[n] := rfl
    rw [named_at hn hkl, hg] at hd
    cases h1 : upperB s[n].toNat
    · rw [h1, Bool.false_and, Bool.false_or] at hd
      exact rest hd (fun _ => h1)
    · have hz := anon_upper s n hn hkl (by rw [hg]; exact h1)
      rw [hz, h1, Bool.true_and, Bool.or_false, Bool.and_comm] at hd
      rw [← hd] at hR
      have HR := Lib.hid hR
      clear hR hd hz rest hg
      go_enter Tryz.func154, Tryz.ntmps154
      go_wp2_with (first
        | (go_at_call 74; refine HU.out.mono ?_; rintro e w' ⟨rfl, rfl⟩)
        | (go_at_call 109; refine (rupper_any _ _).mono ?_; rintro e w' ⟨rfl, rfl⟩)
        | (go_at_call 76; refine HWD.out.mono ?_; rintro e w' ⟨rfl, rfl⟩; rw [HR.out]))
      go_ret
      exact ⟨rfl, rfl⟩
  · have hz : s.data.toList.drop n = [] := List.drop_eq_nil_of_le (by rw [hl]; omega)
    rw [named_none hn hz, Bool.false_or] at hd
    exact rest hd (fun h => absurd h hlt)
end Go.Proofs.YtcoieohbmkjpoaaGreatDoor
