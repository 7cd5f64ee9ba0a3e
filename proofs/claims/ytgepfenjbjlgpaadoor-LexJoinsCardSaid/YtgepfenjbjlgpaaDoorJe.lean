/- The law of joined tokens: its walk. -/
import Derived.Test.YtgepfenjbjlgpaaDoorJd
namespace Go.Proofs.YtgepfenjbjlgpaaDoor
open Go.RowKit

def sumZ : List Tz → Nat
  | [] => 0
  | x :: r => x.t.size + sumZ r
theorem sumZ_app (a b : List Tz) : sumZ (a ++ b) = sumZ a + sumZ b := by
  induction a with
  | nil => simp [sumZ]
  | cons x r ih => simp only [List.cons_append, sumZ, ih]; omega
theorem sumZ_take {l : List Tz} {j : Nat} {x : Tz} (h : l[j]? = some x) : sumZ (l.take (j + 1)) = sumZ (l.take j) + x.t.size := by
  rw [take_snocZ h, sumZ_app]; simp [sumZ]
theorem sumZ_le {m : Nat} : ∀ l : List Tz, (∀ x ∈ l, x.t.size ≤ m) → sumZ l ≤ l.length * m
  | [], _ => Nat.zero_le _
  | x :: r, h => by
    have h1 := h x (List.mem_cons_self ..)
    have h2 := sumZ_le r (fun y hy => h y (List.mem_cons_of_mem _ hy))
    simp only [sumZ, List.length_cons, Nat.add_mul, Nat.one_mul]; omega
theorem joinLZ_sum (l : List Tz) : ∀ j, j ≤ l.length → (joinLZ (l.take j)).length ≤ sumZ (l.take j) + j
  | 0, _ => by rw [List.take_zero]; exact Nat.zero_le _
  | j + 1, hj => by
    have ih := joinLZ_sum l j (by omega)
    obtain ⟨x, hx⟩ : ∃ x, l[j]? = some x := ⟨l[j], List.getElem?_eq_getElem (by omega)⟩
    rw [sumZ_take hx, take_snocZ hx]
    have hm : x.t.data.toList.length = x.t.size := rfl
    cases hl : l.take j with
    | nil => rw [List.nil_append, joinLZ_one]; omega
    | cons y z =>
      rw [hl] at ih
      rw [joinLZ_snoc _ _ (by simp), List.length_append, List.length_cons]; omega

set_option maxRecDepth 100000 in
set_option maxHeartbeats 4000000 in
theorem joins_long (toks : List Tz) (v : Value) (w : World) (hV : IsToksZ w.heap.size w v toks) (hE : ErrOk w) (hl : 300 < toks.length) (hcap : toks.length ≤ 4611686018427387904) (ht : ∀ x ∈ toks, x.t.size ≤ 140737488351232) :
    Calls Tryd.prog 3 #[v] w fun e w' => e = .returned (.bool true) ∧ Below w.heap.size w w' := by
  obtain ⟨p, cap, rfl, hcells⟩ := hV
  have HC := Lib.hid hcells
  have HT := Lib.hid ht
  have HA := Lib.hid (lexAwake_any w hE)
  clear hcells ht hE
  go_enter Tryd.func3, Tryd.ntmps3
  go_wp2
  go_loop [3, 4] (fun o i => ∃ (j : Nat) (z : Int), j ≤ toks.length ∧ i = .int .i64 j ∧ o = .int .i64 z) (fun _ i => toks.length - (intOf i).toNat)
  case atStart => exact ⟨0, 0, Nat.zero_le _, rfl, rfl⟩
  case round =>
    obtain ⟨j, z, hjl, rfl, rfl⟩ := hrel
    by_cases hlt : j < toks.length
    · obtain ⟨b, off, rfl, hbw, hc⟩ := HC.out (by intro e; rw [e] at hlt; simp at hlt)
      obtain ⟨x, hx⟩ : ∃ x, toks[j]? = some x := ⟨toks[j], List.getElem?_eq_getElem hlt⟩
      have c1 := (hc j x hx).2.1
      have hxs := HT.out x (List.mem_of_getElem? hx)
      clear hc hx
      go_wp2
      go_round
      case rel => exact ⟨j + 1, _, by omega, by go_num, rfl⟩
      case measure => simp [intOf]; omega
    · have hd : decide ((300 : Int) < (toks.length : Int)) = true := by simp; omega
      go_wp2_with fail
      refine HA.out.mono ?_
      rintro e W1 ⟨rfl, hB1⟩
      have HB1 := Lib.hid hB1
      clear hB1
      go_wp2
      go_ret
      exact ⟨rfl, HB1.out⟩

set_option maxRecDepth 100000 in
set_option maxHeartbeats 4000000 in
theorem joins_short (toks : List Tz) (v : Value) (w : World) (hV : IsToksZ w.heap.size w v toks) (hE : ErrOk w) (hl : toks.length ≤ 300) (hk : KOz toks) (ht : ∀ x ∈ toks, x.t.size ≤ 140737488351232) :
    Calls Tryd.prog 3 #[v] w fun e w' => e = .returned (.bool true) ∧ Below w.heap.size w w' := by
  have HV := Lib.hid hV
  have HE := Lib.hid hE
  have HK := Lib.hid hk
  obtain ⟨p, cap, rfl, hcells⟩ := hV
  have HC := Lib.hid hcells
  have HT := Lib.hid ht
  have HA := Lib.hid (lexAwake_any w hE)
  have hS : sumZ toks ≤ 300 * 140737488351232 := Nat.le_trans (sumZ_le toks ht) (Nat.mul_le_mul_right _ hl)
  have HSJ : Hid (∀ j, sumZ (toks.take j) ≤ sumZ toks) := Lib.hid (fun j => by
    have h := sumZ_app (toks.take j) (toks.drop j)
    rw [List.take_append_drop] at h; omega)
  clear hcells ht hE hk
  go_enter Tryd.func3, Tryd.ntmps3
  go_wp2
  go_loop [3, 4] (fun o i => ∃ j : Nat, j ≤ toks.length ∧ i = .int .i64 j ∧ o = .int .i64 (sumZ (toks.take j) : Nat)) (fun _ i => toks.length - (intOf i).toNat)
  case atStart => exact ⟨0, Nat.zero_le _, rfl, by rw [List.take_zero]; rfl⟩
  case round =>
    obtain ⟨j, hjl, rfl, rfl⟩ := hrel
    by_cases hlt : j < toks.length
    · obtain ⟨b, off, rfl, hbw, hc⟩ := HC.out (by intro e; rw [e] at hlt; simp at hlt)
      obtain ⟨x, hx⟩ : ∃ x, toks[j]? = some x := ⟨toks[j], List.getElem?_eq_getElem hlt⟩
      have c1 := (hc j x hx).2.1
      have hxs := HT.out x (List.mem_of_getElem? hx)
      have HST := Lib.hid (sumZ_take hx)
      have hsj := HSJ.out j
      generalize sumZ (toks.take j) = z at HST hsj
      clear hc hx
      go_wp2
      go_round
      case rel => exact ⟨j + 1, by omega, by go_num, by rw [HST.out]; push_cast; rfl⟩
      case measure => simp [intOf]; omega
    · have ej : toks.take j = toks := List.take_of_length_le (by omega)
      rw [ej]
      have hd : decide ((300 : Int) < (toks.length : Int)) = false := by simp; omega
      obtain ⟨S, hSe⟩ : ∃ S, sumZ toks = S := ⟨_, rfl⟩
      have HSE := Lib.hid hSe
      rw [hSe] at hS ⊢
      clear ej hSe
      by_cases h4 : S ≤ 4000
      · have hd4 : decide ((4000 : Int) < (S : Int)) = false := by simp; omega
        have hjl : (joinLZ toks).length ≤ 140737488355328 := by
          have h := joinLZ_sum toks toks.length (Nat.le_refl _)
          rw [List.take_length, HSE.out] at h; omega
        have HJ := Lib.hid (callsIn_wide.1 (join_inZ toks (.slice p toks.length cap) w HV.out (by omega) hjl))
        go_wp2_with fail
        refine HJ.out.mono ?_
        clear HJ
        rintro e W1 ⟨rfl, hB1⟩
        have HT1 := Lib.hid (theirs_anyZ toks (.slice p toks.length cap) W1 ((HV.out.below hB1).mono hB1.size) (by omega) HK.out)
        have HB1 := Lib.hid hB1
        clear hB1
        go_wp2_with fail
        refine HT1.out.mono ?_
        clear HT1
        rintro e W2 ⟨u, rfl, hrow, hB2⟩
        have HRJ := Lib.hid (rjoin_anyZ toks u W2 (isToksW_of_row hrow) (by omega) hjl)
        have HB2 := Lib.hid (HB1.out.trans (hB2.mono HB1.out.size))
        have HA2 := Lib.hid (lexAwake_any W2 (HE.out.below HB2.out))
        generalize joinBZ toks = jb at HRJ ⊢
        have n3 : (jb.toList == jb.toList) = true := by simp
        clear hrow hB2 HB1
        go_wp2_with fail
        refine HRJ.out.mono ?_
        clear HRJ
        rintro e W3 ⟨rfl, rfl⟩
        go_wp2_with fail
        refine HA2.out.mono ?_
        rintro e W4 ⟨rfl, hB4⟩
        have HB4 := Lib.hid hB4
        clear hB4
        go_wp2
        go_ret
        exact ⟨rfl, HB2.out.trans (HB4.out.mono HB2.out.size)⟩
      · have hd4 : decide ((4000 : Int) < (S : Int)) = true := by simp; omega
        go_wp2_with fail
        refine HA.out.mono ?_
        rintro e W1 ⟨rfl, hB1⟩
        have HB1 := Lib.hid hB1
        clear hB1
        go_wp2
        go_ret
        exact ⟨rfl, HB1.out⟩

theorem joins_any (toks : List Tz) (v : Value) (w : World) (hV : IsToksZ w.heap.size w v toks) (hE : ErrOk w) (hcap : toks.length ≤ 4611686018427387904) (hk : KOz toks) (ht : ∀ x ∈ toks, x.t.size ≤ 140737488351232) :
    Calls Tryd.prog 3 #[v] w fun e w' => e = .returned (.bool true) ∧ Below w.heap.size w w' := by
  by_cases h : toks.length ≤ 300
  · exact joins_short toks v w hV hE h hk ht
  · exact joins_long toks v w hV hE (by omega) hcap ht
end Go.Proofs.YtgepfenjbjlgpaaDoor
