/- Package arith: outside, the operations, apply. -/
import Derived.Test.YtnobmffgchlijaaGreatDoorAa
import Derived.Test.YtnobmffgchlijaaGreatDoorAb
import Derived.Test.YtnobmffgchlijaaGreatDoorProg
import Derived.WalkKit
import Derived.Lib.Hide
import Derived.IntWalk
import Derived.Deep.QuietTactic
import Derived.BigQuiet
namespace Go.Proofs.YtnobmffgchlijaaGreatDoor
open Go.RowKit

/-- The value is a slice of the numbers. -/
def IntV (w : World) (v : Value) (l : List Int) : Prop := ∃ (a : Option Addr) (cap : Nat), v = .slice a l.length cap ∧ l.length ≤ maxLen ∧
  (l ≠ [] → ∃ b off, a = some ⟨b, off, none⟩ ∧ b < w.heap.size ∧ ∀ i (h : i < l.length), w.cell? ⟨b, off + i, none⟩ = some (.int .i64 l[i]))
theorem IntV.keep {w w' : World} {v : Value} {l : List Int} (h : IntV w v l) (hs : w.heap.size ≤ w'.heap.size) (hc : ∀ b o x, w.cell? ⟨b, o, none⟩ = some x → w'.cell? ⟨b, o, none⟩ = some x) : IntV w' v l := by
  obtain ⟨a, cap, hv, hl, hr⟩ := h
  refine ⟨a, cap, hv, hl, fun hne => ?_⟩
  obtain ⟨b, off, ha, hb, hi⟩ := hr hne
  exact ⟨b, off, ha, by omega, fun i h => hc _ _ _ (hi i h)⟩
theorem IntV.grow {w w' : World} {v : Value} {l : List Int} (h : IntV w v l) (hb : Below w.heap.size w w') : IntV w' v l :=
  h.keep hb.size fun b o _ hx => (hb.cell (p := ⟨b, o, none⟩) (World.block_lt_of_cell? w ⟨b, o, none⟩ hx)).trans hx
theorem Nums.intV {base : Nat} {w : World} {v : Value} {l : List Int} (h : Nums base w v l) : IntV w v l := by
  have h0 := h
  obtain ⟨_, ⟨rfl, hn⟩ | ⟨g, cap, cur, rfl, _, hg, hc, hm, _, _⟩⟩ := h
  · exact ⟨none, 0, by rw [hn], by rw [hn]; exact Nat.zero_le _, fun hne => absurd (List.length_eq_zero_iff.1 hn) hne⟩
  · refine ⟨some ⟨g, 0, none⟩, cap, rfl, Nat.le_trans hc hm, fun _ => ⟨g, 0, rfl, (Array.getElem?_eq_some_iff.1 hg).1, fun i hi => ?_⟩⟩
    have := h0.cells (g := g) rfl i (.int .i64 l[i]) (by simp [hi])
    have hadd : (⟨g, 0, none⟩ : Addr).add i = ⟨g, i, none⟩ := by unfold Addr.add; split <;> simp_all
    rwa [hadd, show (⟨g, i, none⟩ : Addr) = ⟨g, 0 + i, none⟩ from by rw [Nat.zero_add]] at this

set_option maxHeartbeats 400000 in
theorem outside_any (n : Int) (w : World) : Calls Tryz.prog 54 #[.int .i64 n] w fun e w' => e = .returned (.bool (outB n)) ∧ w = w' := by
  have hr : outB n = (decide (n < -2147483647) || decide (2147483647 < n)) := rfl
  have HR := Lib.hid hr; clear hr
  by_cases h1 : n < -2147483647 <;> by_cases h2 : 2147483647 < n
  all_goals try (exfalso; omega)
  all_goals
    have H1 := Lib.hid h1
    have H2 := Lib.hid h2
    go_enter Tryz.func54, Tryz.ntmps54
    go_wp2
    go_ret
    exact ⟨by rw [HR.out]; simp [H1.out, H2.out], rfl⟩

/-- The index of the first number that is outside, or -1. -/
def FirstOut (l : List Int) (e : Ending) : Prop := ∃ i : Int, e = .returned (.int .i64 i) ∧ (decide (0 ≤ i)) = l.any outB

set_option maxRecDepth 100000 in
set_option maxHeartbeats 1000000 in
theorem indexOut (l : List Int) (v : Value) (w : World) (hv : IntV w v l) :
    Calls Tryz.prog 72 #[v, .func (.func 54) #[] #[]] w fun e w' => FirstOut l e ∧ w = w' := by
  obtain ⟨a, cap, rfl, hl, hr⟩ := hv
  unfold maxLen at hl
  have HR := Lib.hid hr; clear hr
  go_enter Tryz.func72, Tryz.ntmps72
  go_wp2
  go_loop [8] (fun i => ∃ j : Nat, j ≤ l.length ∧ i = .int .i64 j ∧ (l.take j).any outB = false) (fun i => l.length - (intOf i).toNat)
  case atStart => exact ⟨0, by omega, by go_num, rfl⟩
  case round =>
    obtain ⟨j, hj, rfl, hf⟩ := hrel
    have HF := Lib.hid hf; clear hf
    by_cases hlt : j < l.length
    · obtain ⟨b, off, rfl, hb, hI⟩ := HR.out (by intro e; rw [e] at hlt; simp at hlt)
      have g0 := hI j hlt
      have hn := List.take_succ_eq_append_getElem hlt
      have HN := Lib.hid hn
      clear hI hn
      cases ho : outB l[j]
      · have HO := Lib.hid (show (l.take (j + 1)).any outB = false by rw [HN.out, List.any_append, HF.out]; simp [ho])
        have i1 : (0 : Int) ≤ (j : Int) := by omega
        have i2 : (j : Int) < (l.length : Int) := by omega
        have HC := Lib.hid (outside_any l[j] w)
        rw [ho] at HC
        clear ho
        go_wp2_with (go_at_call 54; refine HC.out.mono ?_; rintro e w' ⟨rfl, rfl⟩)
        go_round
        case rel => exact ⟨j + 1, by omega, by go_num, HO.out⟩
        case measure => simp [intOf]; omega
      · have HO := Lib.hid (show l.any outB = true by rw [List.any_eq_true]; exact ⟨l[j], List.getElem_mem hlt, ho⟩)
        have i1 : (0 : Int) ≤ (j : Int) := by omega
        have i2 : (j : Int) < (l.length : Int) := by omega
        have HC := Lib.hid (outside_any l[j] w)
        rw [ho] at HC
        clear ho
        go_wp2_with (go_at_call 54; refine HC.out.mono ?_; rintro e w' ⟨rfl, rfl⟩)
        go_ret
        exact ⟨⟨_, rfl, by rw [HO.out]; simp⟩, rfl⟩
    · rw [List.take_of_length_le (by omega)] at HF
      go_wp2
      go_ret
      exact ⟨⟨_, rfl, by rw [HF.out]; rfl⟩, rfl⟩

set_option maxHeartbeats 400000 in
theorem containsOut (l : List Int) (v : Value) (w : World) (hv : IntV w v l) :
    Calls Tryz.prog 53 #[v, .func (.func 54) #[] #[]] w fun e w' => e = .returned (.bool (l.any outB)) ∧ w = w' := by
  have HC := Lib.hid (indexOut l v w hv); clear hv
  go_enter Tryz.func53, Tryz.ntmps53
  go_wp2_with (go_at_call 72; refine HC.out.mono ?_; clear HC; rintro e w' ⟨⟨i, rfl, hi⟩, rfl⟩)
  have HI := Lib.hid hi; clear hi
  go_ret
  exact ⟨by rw [← HI.out]; rfl, rfl⟩

/-- The number of an operation's function. -/
def fnAr : Ar → Nat
  | .neg => 47
  | .add => 48
  | .sub => 49
  | .mul => 50
  | .quo => 51
  | .rem => 52
def optPair : Option Int → Value
  | none => .tuple #[.int .i64 0, .bool false]
  | some n => .tuple #[.int .i64 n, .bool true]
theorem wrap_in {n : Int} (h : -9223372036854775808 ≤ n ∧ n ≤ 9223372036854775807) : IntKind.i64.wrap n = n := IntWalk.i64_in _ (by omega)
theorem mul_in {a b : Int} (ha : outB a = false) (hb : outB b = false) : -9223372036854775808 ≤ a * b ∧ a * b ≤ 9223372036854775807 := by
  have ha := outB_false.1 ha
  have hb := outB_false.1 hb
  have h1 : (a * b).natAbs ≤ 2147483647 * 2147483647 := by
    rw [Int.natAbs_mul]
    exact Nat.mul_le_mul (by omega) (by omega)
  omega
theorem intV_cells {w : World} {v : Value} {l : List Int} (h : IntV w v l) (hl : 0 < l.length) : ∃ b off cap, v = .slice (some ⟨b, off, none⟩) l.length cap ∧ l.length ≤ maxLen ∧ b < w.heap.size ∧ ∀ i (h : i < l.length), w.cell? ⟨b, off + i, none⟩ = some (.int .i64 l[i]) := by
  obtain ⟨a, cap, rfl, hm, hr⟩ := h
  obtain ⟨b, off, rfl, hb, hi⟩ := hr (by intro e; rw [e] at hl; simp at hl)
  exact ⟨b, off, cap, rfl, hm, hb, hi⟩

set_option maxRecDepth 100000 in
set_option maxHeartbeats 1000000 in
theorem neg_any (a : Int) (v : Value) (w : World) (hv : IntV w v [a]) (ha : outB a = false) :
    Calls Tryz.prog 47 #[v] w fun e w' => e = .returned (optPair (Ar.run .neg a 0)) ∧ ∃ n, w' = w.drewN n := by
  obtain ⟨b, off, cap, rfl, _, hb, hI⟩ := intV_cells hv (by simp)
  have g0 : w.cell? ⟨b, off, none⟩ = some (.int .i64 a) := hI 0 (by simp)
  have ha := outB_false.1 ha
  obtain ⟨a1, a2⟩ := ha
  clear hI hv
  go_enter Tryz.func47, Tryz.ntmps47
  go_wp2
  go_ret2
  exact ⟨rfl, 0, rfl⟩

set_option maxRecDepth 100000 in
set_option maxHeartbeats 1000000 in
theorem add_any (a b : Int) (v : Value) (w : World) (hv : IntV w v [a, b]) (ha : outB a = false) (hb : outB b = false) :
    Calls Tryz.prog 48 #[v] w fun e w' => e = .returned (optPair (Ar.run .add a b)) ∧ ∃ n, w' = w.drewN n := by
  obtain ⟨p, off, cap, rfl, _, hp, hI⟩ := intV_cells hv (by simp)
  have g0 : w.cell? ⟨p, off, none⟩ = some (.int .i64 a) := hI 0 (by simp)
  have g1 : w.cell? ⟨p, off + 1, none⟩ = some (.int .i64 b) := hI 1 (by simp)
  obtain ⟨a1, a2⟩ := outB_false.1 ha
  obtain ⟨b1, b2⟩ := outB_false.1 hb
  have hw : IntKind.i64.wrap (a + b) = a + b := wrap_in (by omega)
  clear hI hv ha hb
  go_enter Tryz.func48, Tryz.ntmps48
  go_wp2
  go_quiet (fail)
  go_wp2
  go_ret2
  exact ⟨rfl, _, rfl⟩
set_option maxRecDepth 100000 in
set_option maxHeartbeats 1000000 in
theorem sub_any (a b : Int) (v : Value) (w : World) (hv : IntV w v [a, b]) (ha : outB a = false) (hb : outB b = false) :
    Calls Tryz.prog 49 #[v] w fun e w' => e = .returned (optPair (Ar.run .sub a b)) ∧ ∃ n, w' = w.drewN n := by
  obtain ⟨p, off, cap, rfl, _, hp, hI⟩ := intV_cells hv (by simp)
  have g0 : w.cell? ⟨p, off, none⟩ = some (.int .i64 a) := hI 0 (by simp)
  have g1 : w.cell? ⟨p, off + 1, none⟩ = some (.int .i64 b) := hI 1 (by simp)
  obtain ⟨a1, a2⟩ := outB_false.1 ha
  obtain ⟨b1, b2⟩ := outB_false.1 hb
  have hw : IntKind.i64.wrap (a - b) = a - b := wrap_in (by omega)
  clear hI hv ha hb
  go_enter Tryz.func49, Tryz.ntmps49
  go_wp2
  go_quiet (fail)
  go_wp2
  go_ret2
  exact ⟨rfl, _, rfl⟩

set_option maxRecDepth 100000 in
set_option maxHeartbeats 1000000 in
theorem mul_any (a b : Int) (v : Value) (w : World) (hv : IntV w v [a, b]) (ha : outB a = false) (hb : outB b = false) :
    Calls Tryz.prog 50 #[v] w fun e w' => e = .returned (optPair (Ar.run .mul a b)) ∧ ∃ n, w' = w.drewN n := by
  obtain ⟨p, off, cap, rfl, _, hp, hI⟩ := intV_cells hv (by simp)
  have g0 : w.cell? ⟨p, off, none⟩ = some (.int .i64 a) := hI 0 (by simp)
  have g1 : w.cell? ⟨p, off + 1, none⟩ = some (.int .i64 b) := hI 1 (by simp)
  obtain ⟨a1, a2⟩ := outB_false.1 ha
  obtain ⟨b1, b2⟩ := outB_false.1 hb
  have hw : IntKind.i64.wrap (a * b) = a * b := wrap_in (mul_in ha hb)
  clear hI hv ha hb
  go_enter Tryz.func50, Tryz.ntmps50
  go_wp2
  go_quiet (fail)
  go_wp2
  go_ret2
  exact ⟨rfl, _, rfl⟩

theorem tdiv_in {a b : Int} (ha : outB a = false) (hb : outB b = false) : -9223372036854775808 ≤ a.tdiv b ∧ a.tdiv b ≤ 9223372036854775807 := by
  have ha := outB_false.1 ha
  have hb := outB_false.1 hb
  have h1 : (a.tdiv b).natAbs ≤ 2147483647 := by
    rw [Int.natAbs_tdiv]
    exact Nat.le_trans (Nat.div_le_self _ _) (by omega)
  omega
set_option maxRecDepth 100000 in
set_option maxHeartbeats 1000000 in
theorem quo_any (a b : Int) (v : Value) (w : World) (hv : IntV w v [a, b]) (ha : outB a = false) (hb : outB b = false) :
    Calls Tryz.prog 51 #[v] w fun e w' => e = .returned (optPair (Ar.run .quo a b)) ∧ ∃ n, w' = w.drewN n := by
  obtain ⟨p, off, cap, rfl, _, hp, hI⟩ := intV_cells hv (by simp)
  have g0 : w.cell? ⟨p, off, none⟩ = some (.int .i64 a) := hI 0 (by simp)
  have g1 : w.cell? ⟨p, off + 1, none⟩ = some (.int .i64 b) := hI 1 (by simp)
  obtain ⟨a1, a2⟩ := outB_false.1 ha
  obtain ⟨b1, b2⟩ := outB_false.1 hb
  have hw : IntKind.i64.wrap (a.tdiv b) = a.tdiv b := wrap_in (tdiv_in ha hb)
  clear hI hv ha hb
  by_cases h0 : b = 0
  · subst h0
    go_enter Tryz.func51, Tryz.ntmps51
    go_wp2
    go_ret2
    exact ⟨rfl, 0, rfl⟩
  · have hr : Ar.run .quo a b = some (a.tdiv b) := if_neg h0
    have HR := Lib.hid hr
    have hb0 : (b == 0) = false := by simpa using h0
    have HB := Lib.hid h0
    clear hr
    go_enter Tryz.func51, Tryz.ntmps51
    go_wp2
    go_quiet (fail)
    go_wp2
    go_ret2
    exact ⟨by rw [HR.out]; rfl, _, rfl⟩

theorem tmod_in {a b : Int} (ha : outB a = false) (hb : outB b = false) : -9223372036854775808 ≤ a.tmod b ∧ a.tmod b ≤ 9223372036854775807 := by
  have ha := outB_false.1 ha
  have hb := outB_false.1 hb
  have h1 : (a.tmod b).natAbs ≤ 2147483647 := by
    rw [Int.natAbs_tmod]
    exact Nat.le_trans (Nat.mod_le _ _) (by omega)
  omega
set_option maxRecDepth 100000 in
set_option maxHeartbeats 1000000 in
theorem rem_any (a b : Int) (v : Value) (w : World) (hv : IntV w v [a, b]) (ha : outB a = false) (hb : outB b = false) :
    Calls Tryz.prog 52 #[v] w fun e w' => e = .returned (optPair (Ar.run .rem a b)) ∧ ∃ n, w' = w.drewN n := by
  obtain ⟨p, off, cap, rfl, _, hp, hI⟩ := intV_cells hv (by simp)
  have g0 : w.cell? ⟨p, off, none⟩ = some (.int .i64 a) := hI 0 (by simp)
  have g1 : w.cell? ⟨p, off + 1, none⟩ = some (.int .i64 b) := hI 1 (by simp)
  obtain ⟨a1, a2⟩ := outB_false.1 ha
  obtain ⟨b1, b2⟩ := outB_false.1 hb
  have hw : IntKind.i64.wrap (a.tmod b) = a.tmod b := wrap_in (tmod_in ha hb)
  clear hI hv ha hb
  by_cases h0 : b = 0
  · subst h0
    go_enter Tryz.func52, Tryz.ntmps52
    go_wp2
    go_ret2
    exact ⟨rfl, 0, rfl⟩
  · have hr : Ar.run .rem a b = some (a.tmod b) := if_neg h0
    have HR := Lib.hid hr
    have hb0 : (b == 0) = false := by simpa using h0
    have HB := Lib.hid h0
    clear hr
    go_enter Tryz.func52, Tryz.ntmps52
    go_wp2
    go_quiet (fail)
    go_wp2
    go_ret2
    exact ⟨by rw [HR.out]; rfl, _, rfl⟩
end Go.Proofs.YtnobmffgchlijaaGreatDoor
