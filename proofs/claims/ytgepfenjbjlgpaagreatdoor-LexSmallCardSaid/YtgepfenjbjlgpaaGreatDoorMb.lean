/- The reference model of lex: its helpers. -/
import Derived.Test.YtgepfenjbjlgpaaGreatDoorMa
import Derived.Test.YtgepfenjbjlgpaaGreatDoorRv
namespace Go.Proofs.YtgepfenjbjlgpaaGreatDoor
open Go.RowKit

set_option maxHeartbeats 1000000 in
theorem rblank_any (c : Int) (w : World) :
    Calls Tryz.prog 29 #[.int .u8 c] w fun e w' => e = .returned (.bool (inB 1 c)) ∧ w = w' := by
  have H1 := Lib.hid (inB1 c)
  cases h1 : (c == 32) <;> cases h2 : (c == 9) <;> cases h3 : (c == 10) <;> cases h4 : (c == 13)
  all_goals
    have HF := H1.out
    rw [h1, h2, h3, h4] at HF
    have HG := Lib.hid HF
    clear HF
    go_enter Tryz.func29, Tryz.ntmps29
    go_wp2
    go_ret
    exact ⟨by rw [HG.out]; rfl, rfl⟩

set_option maxHeartbeats 1000000 in
theorem rletter_any (c : Int) (w : World) :
    Calls Tryz.prog 30 #[.int .u8 c] w fun e w' => e = .returned (.bool (inB 2 c)) ∧ w = w' := by
  have H2 := Lib.hid (inB2 c)
  by_cases h1 : 97 ≤ c <;> by_cases h2 : c ≤ 122 <;> by_cases h3 : 65 ≤ c <;> by_cases h4 : c ≤ 90
  all_goals
    go_enter Tryz.func30, Tryz.ntmps30
    go_wp2
    go_ret
    exact ⟨by rw [H2.out]; simp [h1, h2, h3, h4], rfl⟩

set_option maxHeartbeats 1000000 in
theorem rdigit3_any (c : Int) (w : World) :
    Calls Tryz.prog 31 #[.int .u8 c] w fun e w' => e = .returned (.bool (inB 4 c)) ∧ w = w' := by
  have H2 := Lib.hid (inB4 c)
  by_cases h1 : 48 ≤ c <;> by_cases h2 : c ≤ 57
  all_goals
    go_enter Tryz.func31, Tryz.ntmps31
    go_wp2
    go_ret
    exact ⟨by rw [H2.out]; simp [h1, h2], rfl⟩

set_option maxHeartbeats 1000000 in
theorem rword3_any (s : ByteArray) (w : World) (hs : s.size ≤ maxLen) :
    Calls Tryz.prog 32 #[.string s] w fun e w' => e = .returned (.int .i64 (wordK s)) ∧ w = w' := by
  have HS := Lib.hid (fun w => rsymbol_any s w hs)
  have HV := Lib.hid (fun w => rvariable_any s w hs)
  cases h1 : (s.toList == [110, 111, 116]) <;> cases h2 : symbolB s <;> cases h3 : variableB s
  all_goals
    have HN := Lib.hid (show notB s = _ from h1)
    have H2 := Lib.hid h2
    have H3 := Lib.hid h3
    rw [h2] at HS
    rw [h3] at HV
    clear h2 h3
    go_enter Tryz.func32, Tryz.ntmps32
    go_wp2_with (first
      | (go_at_call 60; refine (HS.out _).mono ?_; rintro e w' ⟨rfl, rfl⟩)
      | (go_at_call 61; refine (HV.out _).mono ?_; rintro e w' ⟨rfl, rfl⟩))
    go_ret
    exact ⟨by unfold wordK; rw [HN.out, H2.out, H3.out]; rfl, rfl⟩

set_option maxHeartbeats 2000000 in
theorem rnumber_any (s : ByteArray) (w : World) (hs : s.size ≤ maxLen) (h0 : 0 < s.size) (hd : ∀ c ∈ s.data.toList, inB 4 c.toNat = true) :
    Calls Tryz.prog 33 #[.string s] w fun e w' => e = .returned (.bool (numB s)) ∧ w = w' := by
  unfold maxLen at hs
  have HB := Lib.hid (fun acc r h hb => num_big (s := s) (acc := acc) (r := r) h0 hd h hb)
  have HL := Lib.hid (fun h1 h48 => num_lead (s := s) h0 hd h1 h48)
  have HG := Lib.hid (fun acc h hb hz => num_good (s := s) (acc := acc) h0 hd h hb hz)
  have HD := Lib.hid hd
  clear hd
  go_enter Tryz.func33, Tryz.ntmps33
  go_wp2
  go_loop [3, 4] (fun n i => ∃ k acc : Nat, k ≤ s.size ∧ n = .int .i64 acc ∧ i = .int .i64 k ∧ acc ≤ 2147483647 ∧ Lib.parseUintM (2 ^ 64 - 1) 0 s.data.toList = Lib.parseUintM (2 ^ 64 - 1) acc (s.data.toList.drop k) ∧ (¬ 1 < k ∨ s[0] ≠ 48)) (fun _ i => s.size - (intOf i).toNat)
  case atStart => exact ⟨0, 0, Nat.zero_le _, rfl, rfl, by omega, by simp, .inl (by omega)⟩
  case round =>
    obtain ⟨k, acc, hk, rfl, rfl, hacc, hr, hz⟩ := hrel
    have hl : s.data.toList.length = s.size := rfl
    by_cases hlt : k < s.size
    · have hkl : k < s.data.toList.length := by rw [hl]; exact hlt
      have hin : inB 4 (s[k]'hlt).toNat = true := HD.out s[k] (List.getElem_mem (l := s.data.toList) hkl)
      have hb : 48 ≤ (s[k]'hlt).toNat ∧ (s[k]'hlt).toNat ≤ 57 := in4 hin
      rw [List.drop_eq_getElem_cons hkl] at hr
      have hr' : Lib.parseUintM (2 ^ 64 - 1) 0 s.data.toList = Lib.parseUintM (2 ^ 64 - 1) (acc * 10 + ((s[k]'hlt).toNat - 48)) (s.data.toList.drop (k + 1)) := hr.trans (uint_step (c := s[k]) (r := s.data.toList.drop (k + 1)) hin hacc)
      have hR := Lib.hid hr'
      have hZ := Lib.hid hz
      clear hr hr' hz hin hl hkl
      have b1 : (48 : Int) ≤ (s[k].toNat : Int) := by omega
      have b2 : (s[k].toNat : Int) ≤ 57 := by omega
      have hcast : (((acc * 10 + (s[k].toNat - 48) : Nat)) : Int) = (acc : Int) * 10 + ((s[k].toNat : Int) - 48) := by omega
      have HC := Lib.hid hcast
      by_cases hbig : acc * 10 + (s[k].toNat - 48) ≤ 2147483647
      · have e1 : decide ((2147483647 : Int) < (acc : Int) * 10 + ((s[k].toNat : Int) - 48)) = false := by simp; omega
        by_cases hk0 : 0 < k
        · have e2 : decide ((0 : Int) < (k : Int)) = true := by simp; omega
          by_cases h48 : s[0] = 48
          · have e3 : ((s[0].toNat : Int) == 48) = true := by rw [h48]; rfl
            have HF := Lib.hid (HL.out (by omega) h48)
            clear h48
            go_wp2
            go_ret
            exact ⟨by rw [HF.out]; rfl, rfl⟩
          · have e3 : ((s[0].toNat : Int) == 48) = false := by
              rw [beq_eq_false_iff_ne]; intro e; apply h48
              apply UInt8.toNat_inj.1; show s[0].toNat = 48; omega
            have H48 := Lib.hid h48
            clear h48
            go_wp2
            go_round
            case rel => exact ⟨k + 1, acc * 10 + (s[k].toNat - 48), by omega, by rw [HC.out], by go_num, hbig, hR.out, .inr H48.out⟩
            case measure => simp [intOf]; omega
        · have e2 : decide ((0 : Int) < (k : Int)) = false := by simp; omega
          go_wp2
          go_round
          case rel => exact ⟨k + 1, acc * 10 + (s[k].toNat - 48), by omega, by rw [HC.out], by go_num, hbig, hR.out, .inl (by omega)⟩
          case measure => simp [intOf]; omega
      · have e1 : decide ((2147483647 : Int) < (acc : Int) * 10 + ((s[k].toNat : Int) - 48)) = true := by simp; omega
        have HF := Lib.hid (HB.out _ _ hR.out hbig)
        go_wp2
        go_ret
        exact ⟨by rw [HF.out]; rfl, rfl⟩
    · have hz0 : s.data.toList.drop k = [] := List.drop_eq_nil_of_le (by rw [hl]; omega)
      rw [hz0] at hr
      have HF := Lib.hid (HG.out acc hr hacc (by rcases hz with h | h; exact .inl (by omega); exact .inr h))
      clear hr hz hz0 hl
      go_wp2
      go_ret
      exact ⟨by rw [HF.out]; rfl, rfl⟩

set_option maxHeartbeats 1000000 in
/-- The signs of one byte, looked up one by one. -/
theorem one_at {A : ByteArray} (hA : A = ⟨oneL.toArray⟩) (c : UInt8) {k : Nat} (hk : k < A.size) (h : A[k] = c) : oneL.contains c = true := by
  subst hA
  rw [List.contains_iff_mem, ← h]
  exact List.getElem_mem (l := oneL) _
theorem one_none {A : ByteArray} (hA : A = ⟨oneL.toArray⟩) (c : UInt8) (h : ∀ (j : Nat) (hj : j < A.size), A[j] ≠ c) : oneL.contains c = false := by
  subst hA
  rw [Bool.eq_false_iff]
  intro hc
  rw [List.contains_iff_mem] at hc
  obtain ⟨j, hj, e⟩ := List.getElem_of_mem hc
  exact h j hj e
theorem two_list {s : ByteArray} {a : Nat} : (s.extract a (a + 2)).toList = (s.data.toList.drop a).take 2 := by
  rw [toList_data, ext_list, Nat.add_sub_cancel_left]

set_option maxRecDepth 100000 in
set_option maxHeartbeats 4000000 in
theorem rsign_any (s : ByteArray) (a : Nat) (w : World) (hs : s.size ≤ maxLen) (ha : a < s.size) :
    Calls Tryz.prog 34 #[.string s, .int .i64 a] w fun e w' => e = .returned (.int .i64 (signL (s.data.toList.drop a) : Nat)) ∧ ∃ n, w' = w.drewN n := by
  unfold maxLen at hs
  by_cases h2 : a + 1 < s.size
  · have HD : twoB ((s.data.toList.drop a).take 2) = (((s.extract a (a + 2)).toList == [58, 45]) || ((s.extract a (a + 2)).toList == [58, 126]) || ((s.extract a (a + 2)).toList == [46, 46]) || ((s.extract a (a + 2)).toList == [33, 61]) || ((s.extract a (a + 2)).toList == [60, 61]) || ((s.extract a (a + 2)).toList == [62, 61])) := by rw [two_list]; rfl
    have HT0 : twoB ((s.data.toList.drop a).take 2) = true → signL (s.data.toList.drop a) = 2 := fun h => by unfold signL; rw [if_pos h]
    have HN0 := sign_one (s := s) ha
    have h2' : decide ((a : Int) + 1 < (s.size : Int)) = true := by simp; omega
    cases q0 : ((s.extract a (a + 2)).toList == [58, 45])
    rotate_left
    · skip
      have HT := Lib.hid (HT0 (by rw [HD, q0]; rfl))
      clear HD HT0 HN0
      go_enter Tryz.func34, Tryz.ntmps34
      go_wp2
      go_ret
      exact ⟨by rw [HT.out]; rfl, 0, rfl⟩
    cases q1 : ((s.extract a (a + 2)).toList == [58, 126])
    rotate_left
    · skip
      have HT := Lib.hid (HT0 (by rw [HD, q0, q1]; rfl))
      clear HD HT0 HN0
      go_enter Tryz.func34, Tryz.ntmps34
      go_wp2
      go_ret
      exact ⟨by rw [HT.out]; rfl, 0, rfl⟩
    cases q2 : ((s.extract a (a + 2)).toList == [46, 46])
    rotate_left
    · skip
      have HT := Lib.hid (HT0 (by rw [HD, q0, q1, q2]; rfl))
      clear HD HT0 HN0
      go_enter Tryz.func34, Tryz.ntmps34
      go_wp2
      go_ret
      exact ⟨by rw [HT.out]; rfl, 0, rfl⟩
    cases q3 : ((s.extract a (a + 2)).toList == [33, 61])
    rotate_left
    · skip
      have HT := Lib.hid (HT0 (by rw [HD, q0, q1, q2, q3]; rfl))
      clear HD HT0 HN0
      go_enter Tryz.func34, Tryz.ntmps34
      go_wp2
      go_ret
      exact ⟨by rw [HT.out]; rfl, 0, rfl⟩
    cases q4 : ((s.extract a (a + 2)).toList == [60, 61])
    rotate_left
    · skip
      have HT := Lib.hid (HT0 (by rw [HD, q0, q1, q2, q3, q4]; rfl))
      clear HD HT0 HN0
      go_enter Tryz.func34, Tryz.ntmps34
      go_wp2
      go_ret
      exact ⟨by rw [HT.out]; rfl, 0, rfl⟩
    cases q5 : ((s.extract a (a + 2)).toList == [62, 61])
    rotate_left
    · skip
      have HT := Lib.hid (HT0 (by rw [HD, q0, q1, q2, q3, q4, q5]; rfl))
      clear HD HT0 HN0
      go_enter Tryz.func34, Tryz.ntmps34
      go_wp2
      go_ret
      exact ⟨by rw [HT.out]; rfl, 0, rfl⟩
    have HN := Lib.hid (HN0 (by rw [HD, q0, q1, q2, q3, q4, q5]; rfl))
    clear HD HT0 HN0
    go_enter Tryz.func34, Tryz.ntmps34
    go_wp2
    obtain ⟨A, hA⟩ : ∃ A : ByteArray, A = ⟨#[58, 46, 44, 59, 124, 40, 41, 123, 125, 91, 93, 61, 60, 62, 43, 45, 42, 47, 92, 64]⟩ := ⟨_, rfl⟩
    rw [← hA]
    have hsz : A.size = 20 := by rw [hA]; rfl
    have HA := Lib.hid (show A = ⟨oneL.toArray⟩ from hA)
    clear hA
    go_loopw [7] (fun i wr => ∃ k n : Nat, k ≤ A.size ∧ i = .int .i64 k ∧ wr = w.drewN n ∧ ∀ (j : Nat) (hj : j < A.size), j < k → A[j] ≠ s[a]) (fun i _ => A.size - (intOf i).toNat)
    case atStart => exact ⟨0, 0, Nat.zero_le _, rfl, rfl, fun j _ h => by omega⟩
    case round =>
      obtain ⟨k, n, hk, rfl, rfl, hr⟩ := hrel
      have HR := Lib.hid hr
      clear hr
      by_cases hlk : k < A.size
      · by_cases hc : A[k] = s[a]
        · have HO := Lib.hid (one_at HA.out s[a] hlk hc)
          have e1 : ((A[k].toNat : Int) == (s[a].toNat : Int)) = true := by rw [hc]; simp
          clear hc
          go_wp2_with fail
          go_quiet (fail)
          go_wp2_with fail
          go_ret
          exact ⟨by rw [HN.out, HO.out]; rfl, _, World.drewN_drewN _ _ _⟩
        · have e1 : ((A[k].toNat : Int) == (s[a].toNat : Int)) = false := by
            rw [beq_eq_false_iff_ne]; intro e; apply hc
            apply UInt8.toNat_inj.1; omega
          have HC := Lib.hid hc
          clear hc
          go_wp2_with fail
          go_quiet (fail)
          go_wp2_with fail
          go_roundw
          case rel => exact ⟨k + 1, _, by omega, by go_num, rfl, fun j hj hjk => by
            by_cases e : j = k
            · subst e; exact HC.out
            · exact HR.out j hj (by omega)⟩
          case measure => simp [intOf]; omega
      · have HO := Lib.hid (one_none HA.out s[a] (fun j hj => HR.out j hj (by omega)))
        go_wp2
        go_ret
        exact ⟨by rw [HN.out, HO.out]; rfl, _, rfl⟩
  · have HN := Lib.hid (sign_one (s := s) ha (sign_last ha h2))
    have h2' : decide ((a : Int) + 1 < (s.size : Int)) = false := by simp; omega
    go_enter Tryz.func34, Tryz.ntmps34
    go_wp2
    obtain ⟨A, hA⟩ : ∃ A : ByteArray, A = ⟨#[58, 46, 44, 59, 124, 40, 41, 123, 125, 91, 93, 61, 60, 62, 43, 45, 42, 47, 92, 64]⟩ := ⟨_, rfl⟩
    rw [← hA]
    have hsz : A.size = 20 := by rw [hA]; rfl
    have HA := Lib.hid (show A = ⟨oneL.toArray⟩ from hA)
    clear hA
    go_loopw [7] (fun i wr => ∃ k n : Nat, k ≤ A.size ∧ i = .int .i64 k ∧ wr = w.drewN n ∧ ∀ (j : Nat) (hj : j < A.size), j < k → A[j] ≠ s[a]) (fun i _ => A.size - (intOf i).toNat)
    case atStart => exact ⟨0, 0, Nat.zero_le _, rfl, rfl, fun j _ h => by omega⟩
    case round =>
      obtain ⟨k, n, hk, rfl, rfl, hr⟩ := hrel
      have HR := Lib.hid hr
      clear hr
      by_cases hlk : k < A.size
      · by_cases hc : A[k] = s[a]
        · have HO := Lib.hid (one_at HA.out s[a] hlk hc)
          have e1 : ((A[k].toNat : Int) == (s[a].toNat : Int)) = true := by rw [hc]; simp
          clear hc
          go_wp2_with fail
          go_quiet (fail)
          go_wp2_with fail
          go_ret
          exact ⟨by rw [HN.out, HO.out]; rfl, _, World.drewN_drewN _ _ _⟩
        · have e1 : ((A[k].toNat : Int) == (s[a].toNat : Int)) = false := by
            rw [beq_eq_false_iff_ne]; intro e; apply hc
            apply UInt8.toNat_inj.1; omega
          have HC := Lib.hid hc
          clear hc
          go_wp2_with fail
          go_quiet (fail)
          go_wp2_with fail
          go_roundw
          case rel => exact ⟨k + 1, _, by omega, by go_num, rfl, fun j hj hjk => by
            by_cases e : j = k
            · subst e; exact HC.out
            · exact HR.out j hj (by omega)⟩
          case measure => simp [intOf]; omega
      · have HO := Lib.hid (one_none HA.out s[a] (fun j hj => HR.out j hj (by omega)))
        go_wp2
        go_ret
        exact ⟨by rw [HN.out, HO.out]; rfl, _, rfl⟩
end Go.Proofs.YtgepfenjbjlgpaaGreatDoor
