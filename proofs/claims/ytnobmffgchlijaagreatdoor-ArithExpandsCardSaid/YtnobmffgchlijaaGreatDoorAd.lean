/- Package arith: apply at each operation. -/
import Derived.Test.YtnobmffgchlijaaGreatDoorAc
namespace Go.Proofs.YtnobmffgchlijaaGreatDoor
open Go.RowKit

theorem applyI_out {o : Ar} {l : List Int} (h : l.any outB = true) : applyI o l = none := if_pos h
theorem applyI_none {o : Ar} {l : List Int} (h : l.any outB = false) (hr : o.run (l.getD 0 0) (l.getD 1 0) = none) : applyI o l = none := by
  unfold applyI; rw [if_neg (by rw [h]; decide), hr]
theorem applyI_some {o : Ar} {l : List Int} {n : Int} (h : l.any outB = false) (hr : o.run (l.getD 0 0) (l.getD 1 0) = some n) (hn : outB n = false) : applyI o l = some n := by
  unfold applyI; rw [if_neg (by rw [h]; decide), hr]; exact if_neg (by rw [hn]; decide)
theorem applyI_far {o : Ar} {l : List Int} {n : Int} (h : l.any outB = false) (hr : o.run (l.getD 0 0) (l.getD 1 0) = some n) (hn : outB n = true) : applyI o l = none := by
  unfold applyI; rw [if_neg (by rw [h]; decide), hr]; exact if_pos hn
theorem IntV.drew {w : World} {v : Value} {l : List Int} (h : IntV w v l) (n : Nat) : IntV (w.drewN n) v l := h.keep (Nat.le_refl _) fun _ _ _ hx => hx
/-- What apply gives. -/
abbrev AppPost (o : Ar) (l : List Int) (w : World) (e : Ending) (w' : World) : Prop := e = .returned (optPair (applyI o l)) ∧ ∃ n, w' = w.drewN n

set_option maxRecDepth 100000 in
set_option maxHeartbeats 1000000 in
theorem apply_neg (a : Int) (v : Value) (w : World) (hv : IntV w v [a]) :
    Calls Tryz.prog 33 #[.func (.func 47) #[] #[], v] w (AppPost .neg [a] w) := by
  have HV := Lib.hid hv
  have HC := Lib.hid (containsOut [a] v w hv); clear hv
  cases hany : ([a] : List Int).any outB
  · have HA := Lib.hid hany
    have ho : outB a = false := by simpa using hany
    have ha := ho
    rw [hany] at HC
    clear hany
    have HF := Lib.hid (show Calls _ _ _ w (fun e w' => e = .returned (.tuple #[.int .i64 (-a), .bool true]) ∧ ∃ n, w' = w.drewN n) from (neg_any a v w HV.out ha).mono fun _ _ ⟨h1, h2⟩ => ⟨h1, h2⟩)
    cases ho : outB (-a)
    · have HS := Lib.hid (applyI_some (o := .neg) (l := [a]) HA.out rfl ho)
      have HO := Lib.hid (fun w => outside_any (-a) w)
      rw [ho] at HO
      clear ho ha
      go_enter Tryz.func33, Tryz.ntmps33
      go_wp2_with (first | (go_at_call 53; refine HC.out.mono ?_; clear HC; rintro e w' ⟨rfl, rfl⟩) | (go_at_call 47; refine HF.out.mono ?_; clear HF; rintro e w' ⟨rfl, n1, rfl⟩) | (go_at_call 54; refine (HO.out _).mono ?_; rintro e w' ⟨rfl, rfl⟩))
      go_ret2
      exact ⟨by rw [HS.out]; rfl, n1, rfl⟩
    · have HS := Lib.hid (applyI_far (o := .neg) (l := [a]) HA.out rfl ho)
      have HO := Lib.hid (fun w => outside_any (-a) w)
      rw [ho] at HO
      clear ho ha
      go_enter Tryz.func33, Tryz.ntmps33
      go_wp2_with (first | (go_at_call 53; refine HC.out.mono ?_; clear HC; rintro e w' ⟨rfl, rfl⟩) | (go_at_call 47; refine HF.out.mono ?_; clear HF; rintro e w' ⟨rfl, n1, rfl⟩) | (go_at_call 54; refine (HO.out _).mono ?_; rintro e w' ⟨rfl, rfl⟩))
      go_ret2
      exact ⟨by rw [HS.out]; rfl, n1, rfl⟩
  · have HS := Lib.hid (applyI_out (o := .neg) (l := [a]) hany)
    rw [hany] at HC
    clear hany
    go_enter Tryz.func33, Tryz.ntmps33
    go_wp2_with (go_at_call 53; refine HC.out.mono ?_; clear HC; rintro e w' ⟨rfl, rfl⟩)
    go_ret2
    exact ⟨by rw [HS.out]; rfl, 0, rfl⟩

set_option maxRecDepth 100000 in
set_option maxHeartbeats 1000000 in
theorem apply_add (a b : Int) (v : Value) (w : World) (hv : IntV w v [a, b]) :
    Calls Tryz.prog 33 #[.func (.func 48) #[] #[], v] w (AppPost .add [a, b] w) := by
  have HV := Lib.hid hv
  have HC := Lib.hid (containsOut [a, b] v w hv); clear hv
  cases hany : ([a, b] : List Int).any outB
  · have HA := Lib.hid hany
    have ho : outB a = false ∧ outB b = false := by simpa using hany
    obtain ⟨ha, hb⟩ := ho
    rw [hany] at HC
    clear hany
    have HF := Lib.hid (show Calls _ _ _ w (fun e w' => e = .returned (.tuple #[.int .i64 (a + b), .bool true]) ∧ ∃ n, w' = w.drewN n) from (add_any a b v w HV.out ha hb).mono fun _ _ ⟨h1, h2⟩ => ⟨h1, h2⟩)
    cases ho : outB (a + b)
    · have HS := Lib.hid (applyI_some (o := .add) (l := [a, b]) HA.out rfl ho)
      have HO := Lib.hid (fun w => outside_any (a + b) w)
      rw [ho] at HO
      clear ho ha hb
      go_enter Tryz.func33, Tryz.ntmps33
      go_wp2_with (first | (go_at_call 53; refine HC.out.mono ?_; clear HC; rintro e w' ⟨rfl, rfl⟩) | (go_at_call 48; refine HF.out.mono ?_; clear HF; rintro e w' ⟨rfl, n1, rfl⟩) | (go_at_call 54; refine (HO.out _).mono ?_; rintro e w' ⟨rfl, rfl⟩))
      go_ret2
      exact ⟨by rw [HS.out]; rfl, n1, rfl⟩
    · have HS := Lib.hid (applyI_far (o := .add) (l := [a, b]) HA.out rfl ho)
      have HO := Lib.hid (fun w => outside_any (a + b) w)
      rw [ho] at HO
      clear ho ha hb
      go_enter Tryz.func33, Tryz.ntmps33
      go_wp2_with (first | (go_at_call 53; refine HC.out.mono ?_; clear HC; rintro e w' ⟨rfl, rfl⟩) | (go_at_call 48; refine HF.out.mono ?_; clear HF; rintro e w' ⟨rfl, n1, rfl⟩) | (go_at_call 54; refine (HO.out _).mono ?_; rintro e w' ⟨rfl, rfl⟩))
      go_ret2
      exact ⟨by rw [HS.out]; rfl, n1, rfl⟩
  · have HS := Lib.hid (applyI_out (o := .add) (l := [a, b]) hany)
    rw [hany] at HC
    clear hany
    go_enter Tryz.func33, Tryz.ntmps33
    go_wp2_with (go_at_call 53; refine HC.out.mono ?_; clear HC; rintro e w' ⟨rfl, rfl⟩)
    go_ret2
    exact ⟨by rw [HS.out]; rfl, 0, rfl⟩

set_option maxRecDepth 100000 in
set_option maxHeartbeats 1000000 in
theorem apply_sub (a b : Int) (v : Value) (w : World) (hv : IntV w v [a, b]) :
    Calls Tryz.prog 33 #[.func (.func 49) #[] #[], v] w (AppPost .sub [a, b] w) := by
  have HV := Lib.hid hv
  have HC := Lib.hid (containsOut [a, b] v w hv); clear hv
  cases hany : ([a, b] : List Int).any outB
  · have HA := Lib.hid hany
    have ho : outB a = false ∧ outB b = false := by simpa using hany
    obtain ⟨ha, hb⟩ := ho
    rw [hany] at HC
    clear hany
    have HF := Lib.hid (show Calls _ _ _ w (fun e w' => e = .returned (.tuple #[.int .i64 (a - b), .bool true]) ∧ ∃ n, w' = w.drewN n) from (sub_any a b v w HV.out ha hb).mono fun _ _ ⟨h1, h2⟩ => ⟨h1, h2⟩)
    cases ho : outB (a - b)
    · have HS := Lib.hid (applyI_some (o := .sub) (l := [a, b]) HA.out rfl ho)
      have HO := Lib.hid (fun w => outside_any (a - b) w)
      rw [ho] at HO
      clear ho ha hb
      go_enter Tryz.func33, Tryz.ntmps33
      go_wp2_with (first | (go_at_call 53; refine HC.out.mono ?_; clear HC; rintro e w' ⟨rfl, rfl⟩) | (go_at_call 49; refine HF.out.mono ?_; clear HF; rintro e w' ⟨rfl, n1, rfl⟩) | (go_at_call 54; refine (HO.out _).mono ?_; rintro e w' ⟨rfl, rfl⟩))
      go_ret2
      exact ⟨by rw [HS.out]; rfl, n1, rfl⟩
    · have HS := Lib.hid (applyI_far (o := .sub) (l := [a, b]) HA.out rfl ho)
      have HO := Lib.hid (fun w => outside_any (a - b) w)
      rw [ho] at HO
      clear ho ha hb
      go_enter Tryz.func33, Tryz.ntmps33
      go_wp2_with (first | (go_at_call 53; refine HC.out.mono ?_; clear HC; rintro e w' ⟨rfl, rfl⟩) | (go_at_call 49; refine HF.out.mono ?_; clear HF; rintro e w' ⟨rfl, n1, rfl⟩) | (go_at_call 54; refine (HO.out _).mono ?_; rintro e w' ⟨rfl, rfl⟩))
      go_ret2
      exact ⟨by rw [HS.out]; rfl, n1, rfl⟩
  · have HS := Lib.hid (applyI_out (o := .sub) (l := [a, b]) hany)
    rw [hany] at HC
    clear hany
    go_enter Tryz.func33, Tryz.ntmps33
    go_wp2_with (go_at_call 53; refine HC.out.mono ?_; clear HC; rintro e w' ⟨rfl, rfl⟩)
    go_ret2
    exact ⟨by rw [HS.out]; rfl, 0, rfl⟩

set_option maxRecDepth 100000 in
set_option maxHeartbeats 1000000 in
theorem apply_mul (a b : Int) (v : Value) (w : World) (hv : IntV w v [a, b]) :
    Calls Tryz.prog 33 #[.func (.func 50) #[] #[], v] w (AppPost .mul [a, b] w) := by
  have HV := Lib.hid hv
  have HC := Lib.hid (containsOut [a, b] v w hv); clear hv
  cases hany : ([a, b] : List Int).any outB
  · have HA := Lib.hid hany
    have ho : outB a = false ∧ outB b = false := by simpa using hany
    obtain ⟨ha, hb⟩ := ho
    rw [hany] at HC
    clear hany
    have HF := Lib.hid (show Calls _ _ _ w (fun e w' => e = .returned (.tuple #[.int .i64 (a * b), .bool true]) ∧ ∃ n, w' = w.drewN n) from (mul_any a b v w HV.out ha hb).mono fun _ _ ⟨h1, h2⟩ => ⟨h1, h2⟩)
    cases ho : outB (a * b)
    · have HS := Lib.hid (applyI_some (o := .mul) (l := [a, b]) HA.out rfl ho)
      have HO := Lib.hid (fun w => outside_any (a * b) w)
      rw [ho] at HO
      clear ho ha hb
      go_enter Tryz.func33, Tryz.ntmps33
      go_wp2_with (first | (go_at_call 53; refine HC.out.mono ?_; clear HC; rintro e w' ⟨rfl, rfl⟩) | (go_at_call 50; refine HF.out.mono ?_; clear HF; rintro e w' ⟨rfl, n1, rfl⟩) | (go_at_call 54; refine (HO.out _).mono ?_; rintro e w' ⟨rfl, rfl⟩))
      go_ret2
      exact ⟨by rw [HS.out]; rfl, n1, rfl⟩
    · have HS := Lib.hid (applyI_far (o := .mul) (l := [a, b]) HA.out rfl ho)
      have HO := Lib.hid (fun w => outside_any (a * b) w)
      rw [ho] at HO
      clear ho ha hb
      go_enter Tryz.func33, Tryz.ntmps33
      go_wp2_with (first | (go_at_call 53; refine HC.out.mono ?_; clear HC; rintro e w' ⟨rfl, rfl⟩) | (go_at_call 50; refine HF.out.mono ?_; clear HF; rintro e w' ⟨rfl, n1, rfl⟩) | (go_at_call 54; refine (HO.out _).mono ?_; rintro e w' ⟨rfl, rfl⟩))
      go_ret2
      exact ⟨by rw [HS.out]; rfl, n1, rfl⟩
  · have HS := Lib.hid (applyI_out (o := .mul) (l := [a, b]) hany)
    rw [hany] at HC
    clear hany
    go_enter Tryz.func33, Tryz.ntmps33
    go_wp2_with (go_at_call 53; refine HC.out.mono ?_; clear HC; rintro e w' ⟨rfl, rfl⟩)
    go_ret2
    exact ⟨by rw [HS.out]; rfl, 0, rfl⟩

set_option maxRecDepth 100000 in
set_option maxHeartbeats 1000000 in
theorem apply_quo (a b : Int) (v : Value) (w : World) (hv : IntV w v [a, b]) :
    Calls Tryz.prog 33 #[.func (.func 51) #[] #[], v] w (AppPost .quo [a, b] w) := by
  have HV := Lib.hid hv
  have HC := Lib.hid (containsOut [a, b] v w hv); clear hv
  cases hany : ([a, b] : List Int).any outB
  · have HA := Lib.hid hany
    have ho : outB a = false ∧ outB b = false := by simpa using hany
    obtain ⟨ha, hb⟩ := ho
    rw [hany] at HC
    clear hany
    by_cases h0 : b = 0
    · have hr : Ar.run .quo a b = none := if_pos h0
      have HS := Lib.hid (applyI_none (o := .quo) (l := [a, b]) HA.out hr)
      have HF := Lib.hid (show Calls _ _ _ w (fun e w' => e = .returned (.tuple #[.int .i64 0, .bool false]) ∧ ∃ n, w' = w.drewN n) from (quo_any a b v w HV.out ha hb).mono fun _ _ ⟨h1, h2⟩ => ⟨by rw [h1, hr]; rfl, h2⟩)
      clear ha hb h0 hr
      go_enter Tryz.func33, Tryz.ntmps33
      go_wp2_with (first | (go_at_call 53; refine HC.out.mono ?_; clear HC; rintro e w' ⟨rfl, rfl⟩) | (go_at_call 51; refine HF.out.mono ?_; clear HF; rintro e w' ⟨rfl, n1, rfl⟩))
      go_ret2
      exact ⟨by rw [HS.out]; rfl, n1, rfl⟩
    · have hr : Ar.run .quo a b = some (a.tdiv b) := if_neg h0
      have HF := Lib.hid (show Calls _ _ _ w (fun e w' => e = .returned (.tuple #[.int .i64 (a.tdiv b), .bool true]) ∧ ∃ n, w' = w.drewN n) from (quo_any a b v w HV.out ha hb).mono fun _ _ ⟨h1, h2⟩ => ⟨by rw [h1, hr]; rfl, h2⟩)
      cases ho : outB (a.tdiv b)
      · have HS := Lib.hid (applyI_some (o := .quo) (l := [a, b]) HA.out hr ho)
        have HO := Lib.hid (fun w => outside_any (a.tdiv b) w)
        rw [ho] at HO
        clear ho ha hb h0 hr
        go_enter Tryz.func33, Tryz.ntmps33
        go_wp2_with (first | (go_at_call 53; refine HC.out.mono ?_; clear HC; rintro e w' ⟨rfl, rfl⟩) | (go_at_call 51; refine HF.out.mono ?_; clear HF; rintro e w' ⟨rfl, n1, rfl⟩) | (go_at_call 54; refine (HO.out _).mono ?_; rintro e w' ⟨rfl, rfl⟩))
        go_ret2
        exact ⟨by rw [HS.out]; rfl, n1, rfl⟩
      · have HS := Lib.hid (applyI_far (o := .quo) (l := [a, b]) HA.out hr ho)
        have HO := Lib.hid (fun w => outside_any (a.tdiv b) w)
        rw [ho] at HO
        clear ho ha hb h0 hr
        go_enter Tryz.func33, Tryz.ntmps33
        go_wp2_with (first | (go_at_call 53; refine HC.out.mono ?_; clear HC; rintro e w' ⟨rfl, rfl⟩) | (go_at_call 51; refine HF.out.mono ?_; clear HF; rintro e w' ⟨rfl, n1, rfl⟩) | (go_at_call 54; refine (HO.out _).mono ?_; rintro e w' ⟨rfl, rfl⟩))
        go_ret2
        exact ⟨by rw [HS.out]; rfl, n1, rfl⟩
  · have HS := Lib.hid (applyI_out (o := .quo) (l := [a, b]) hany)
    rw [hany] at HC
    clear hany
    go_enter Tryz.func33, Tryz.ntmps33
    go_wp2_with (go_at_call 53; refine HC.out.mono ?_; clear HC; rintro e w' ⟨rfl, rfl⟩)
    go_ret2
    exact ⟨by rw [HS.out]; rfl, 0, rfl⟩

set_option maxRecDepth 100000 in
set_option maxHeartbeats 1000000 in
theorem apply_rem (a b : Int) (v : Value) (w : World) (hv : IntV w v [a, b]) :
    Calls Tryz.prog 33 #[.func (.func 52) #[] #[], v] w (AppPost .rem [a, b] w) := by
  have HV := Lib.hid hv
  have HC := Lib.hid (containsOut [a, b] v w hv); clear hv
  cases hany : ([a, b] : List Int).any outB
  · have HA := Lib.hid hany
    have ho : outB a = false ∧ outB b = false := by simpa using hany
    obtain ⟨ha, hb⟩ := ho
    rw [hany] at HC
    clear hany
    by_cases h0 : b = 0
    · have hr : Ar.run .rem a b = none := if_pos h0
      have HS := Lib.hid (applyI_none (o := .rem) (l := [a, b]) HA.out hr)
      have HF := Lib.hid (show Calls _ _ _ w (fun e w' => e = .returned (.tuple #[.int .i64 0, .bool false]) ∧ ∃ n, w' = w.drewN n) from (rem_any a b v w HV.out ha hb).mono fun _ _ ⟨h1, h2⟩ => ⟨by rw [h1, hr]; rfl, h2⟩)
      clear ha hb h0 hr
      go_enter Tryz.func33, Tryz.ntmps33
      go_wp2_with (first | (go_at_call 53; refine HC.out.mono ?_; clear HC; rintro e w' ⟨rfl, rfl⟩) | (go_at_call 52; refine HF.out.mono ?_; clear HF; rintro e w' ⟨rfl, n1, rfl⟩))
      go_ret2
      exact ⟨by rw [HS.out]; rfl, n1, rfl⟩
    · have hr : Ar.run .rem a b = some (a.tmod b) := if_neg h0
      have HF := Lib.hid (show Calls _ _ _ w (fun e w' => e = .returned (.tuple #[.int .i64 (a.tmod b), .bool true]) ∧ ∃ n, w' = w.drewN n) from (rem_any a b v w HV.out ha hb).mono fun _ _ ⟨h1, h2⟩ => ⟨by rw [h1, hr]; rfl, h2⟩)
      cases ho : outB (a.tmod b)
      · have HS := Lib.hid (applyI_some (o := .rem) (l := [a, b]) HA.out hr ho)
        have HO := Lib.hid (fun w => outside_any (a.tmod b) w)
        rw [ho] at HO
        clear ho ha hb h0 hr
        go_enter Tryz.func33, Tryz.ntmps33
        go_wp2_with (first | (go_at_call 53; refine HC.out.mono ?_; clear HC; rintro e w' ⟨rfl, rfl⟩) | (go_at_call 52; refine HF.out.mono ?_; clear HF; rintro e w' ⟨rfl, n1, rfl⟩) | (go_at_call 54; refine (HO.out _).mono ?_; rintro e w' ⟨rfl, rfl⟩))
        go_ret2
        exact ⟨by rw [HS.out]; rfl, n1, rfl⟩
      · have HS := Lib.hid (applyI_far (o := .rem) (l := [a, b]) HA.out hr ho)
        have HO := Lib.hid (fun w => outside_any (a.tmod b) w)
        rw [ho] at HO
        clear ho ha hb h0 hr
        go_enter Tryz.func33, Tryz.ntmps33
        go_wp2_with (first | (go_at_call 53; refine HC.out.mono ?_; clear HC; rintro e w' ⟨rfl, rfl⟩) | (go_at_call 52; refine HF.out.mono ?_; clear HF; rintro e w' ⟨rfl, n1, rfl⟩) | (go_at_call 54; refine (HO.out _).mono ?_; rintro e w' ⟨rfl, rfl⟩))
        go_ret2
        exact ⟨by rw [HS.out]; rfl, n1, rfl⟩
  · have HS := Lib.hid (applyI_out (o := .rem) (l := [a, b]) hany)
    rw [hany] at HC
    clear hany
    go_enter Tryz.func33, Tryz.ntmps33
    go_wp2_with (go_at_call 53; refine HC.out.mono ?_; clear HC; rintro e w' ⟨rfl, rfl⟩)
    go_ret2
    exact ⟨by rw [HS.out]; rfl, 0, rfl⟩

theorem apply_any (o : Ar) (l : List Int) (hl : l.length = o.arity) (v : Value) (w : World) (hv : IntV w v l) :
    Calls Tryz.prog 33 #[.func (.func (fnAr o)) #[] #[], v] w (AppPost o l w) := by
  cases o
  · match l, hl with | [a], _ => exact apply_neg a v w hv
  · match l, hl with | [a, b], _ => exact apply_add a b v w hv
  · match l, hl with | [a, b], _ => exact apply_sub a b v w hv
  · match l, hl with | [a, b], _ => exact apply_mul a b v w hv
  · match l, hl with | [a, b], _ => exact apply_quo a b v w hv
  · match l, hl with | [a, b], _ => exact apply_rem a b v w hv
end Go.Proofs.YtnobmffgchlijaaGreatDoor
