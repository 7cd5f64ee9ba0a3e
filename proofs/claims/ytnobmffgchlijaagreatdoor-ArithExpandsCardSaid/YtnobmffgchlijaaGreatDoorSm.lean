/- The statements' helpers: SameTerm, sign, small. -/
import Derived.Test.YtnobmffgchlijaaGreatDoorSz
import Derived.StillTailTactics
import Derived.Deep.QuietTactic
import Derived.BigQuiet
namespace Go.Proofs.YtnobmffgchlijaaGreatDoor
open Go.RowKit

mutual
/-- Equal in every field, on all levels. -/
def sameB (t t' : Tm) : Bool := match t, t' with
  | .mk k n s us, .mk k' n' s' us' => (k == k') && ((n == n') && ((s.toList == s'.toList) && sameL us us'))
def sameL (us us' : List Tm) : Bool := match us, us' with
  | [], [] => true
  | t :: ts, t' :: ts' => sameB t t' && sameL ts ts'
  | _, _ => false
end
theorem bytes_inj {s t : ByteArray} (h : s.toList = t.toList) : s = t := by
  rw [ByteArray.toList_eq, ByteArray.toList_eq] at h
  cases s; cases t
  simp only at h
  congr 1
  exact Array.toList_inj.1 h
mutual
theorem sameB_iff : ∀ t t' : Tm, sameB t t' = true ↔ t = t'
  | .mk k n s us, .mk k' n' s' us' => by
    simp only [sameB, Bool.and_eq_true, beq_iff_eq, sameL_iff us us']
    constructor
    · rintro ⟨rfl, rfl, h, rfl⟩; rw [bytes_inj h]
    · intro e; injection e with e1 e2 e3 e4; subst e1 e2 e3 e4; exact ⟨rfl, rfl, rfl, rfl⟩
theorem sameL_iff : ∀ us us' : List Tm, sameL us us' = true ↔ us = us'
  | [], [] => by simp [sameL]
  | [], _ :: _ => by simp [sameL]
  | _ :: _, [] => by simp [sameL]
  | t :: ts, t' :: ts' => by simp only [sameL, Bool.and_eq_true, sameB_iff t t', sameL_iff ts ts', List.cons.injEq]
end
theorem sameL_len {us us' : List Tm} (h : us.length ≠ us'.length) : sameL us us' = false := by
  cases e : sameL us us' with
  | false => rfl
  | true => exact absurd (congrArg List.length ((sameL_iff us us').1 e)) h

/-- SameTerm at one term. -/
def SmAt (B : Nat) (t : Tm) : Prop := ∀ (t' : Tm) (c0 c1 c2 c3 d0 d1 d2 d3 : Value) (W : World), IsTm B W c0 c1 c2 c3 t → IsTm B W d0 d1 d2 d3 t' → B ≤ W.heap.size →
  Calls Tryz.prog 28 #[.agg #[c0, c1, c2, c3], .agg #[d0, d1, d2, d3]] W fun e W' => e = .returned (.bool (sameB t t')) ∧ Below W.heap.size W W'

set_option maxRecDepth 100000 in
set_option maxHeartbeats 2000000 in
theorem sameTerms_at (B : Nat) (us us' : List Tm) (ih : ∀ t ∈ us, SmAt B t) (a a' : Option Addr) (cap cap' : Nat) (W : World) (hB : B ≤ W.heap.size) (hl : us.length ≤ maxLen) (_hl' : us'.length ≤ maxLen)
    (hargs : us ≠ [] → ∃ b off, a = some ⟨b, off, none⟩ ∧ b < B ∧ IsTms B W b off us) (hargs' : us' ≠ [] → ∃ b off, a' = some ⟨b, off, none⟩ ∧ b < B ∧ IsTms B W b off us') :
    Calls Tryz.prog 29 #[.slice a us.length cap, .slice a' us'.length cap'] W fun e W' => e = .returned (.bool (sameL us us')) ∧ Below W.heap.size W W' := by
  unfold maxLen at hl
  have HA := Lib.hid hargs; clear hargs
  have HA' := Lib.hid hargs'; clear hargs'
  have IH := Lib.hid ih; clear ih
  by_cases hlen : us.length = us'.length
  case neg =>
    rw [sameL_len hlen]
    have e1 : ((us.length : Int) != (us'.length : Int)) = true := by simp; omega
    go_enter Tryz.func29, Tryz.ntmps29
    go_wp2
    go_ret
    exact ⟨rfl, Below.refl _ _⟩
  rw [← hlen]
  have HL := Lib.hid hlen
  clear hlen
  obtain ⟨R, hR⟩ : ∃ R, sameL us us' = R := ⟨_, rfl⟩
  rw [hR]
  go_enter Tryz.func29, Tryz.ntmps29
  go_wp2_with fail
  go_loopw [5] (fun i wr => ∃ (j : Nat), j ≤ us.length ∧ i = .int .i64 j ∧ sameL (us.drop j) (us'.drop j) = R ∧ Below W.heap.size W wr) (fun i _ => us.length - (intOf i).toNat)
  case atStart => exact ⟨0, by omega, by go_num, by simpa using hR, Below.refl _ _⟩
  case round =>
    obtain ⟨j, hj, rfl, hk, hBr⟩ := hrel
    clear hR
    by_cases hlt : j < us.length
    · have hlen := HL.out
      have hlt' : j < us'.length := by omega
      rw [List.drop_eq_getElem_cons (l := us) hlt, List.drop_eq_getElem_cons (l := us') hlt'] at hk
      simp only [sameL] at hk
      obtain ⟨b, off, rfl, hb, hI⟩ := HA.out (by intro e; rw [e] at hlt; simp at hlt)
      obtain ⟨b', off', rfl, hb', hI'⟩ := HA'.out (by intro e; rw [e] at hlen; simp at hlen; rw [hlen] at hlt; simp at hlt)
      obtain ⟨c0, c1, c2, c3, e0, e1, e2, e3, hc⟩ := hI.at j hlt
      obtain ⟨d0, d1, d2, d3, k0, k1, k2, k3, hd⟩ := hI'.at j hlt'
      have hsz := hBr.size
      have g0 := (hBr.cell (p := ⟨b, off + j * 4, none⟩) (by show b < _; omega)).trans e0
      have g1 := (hBr.cell (p := ⟨b, off + j * 4 + 1, none⟩) (by show b < _; omega)).trans e1
      have g2 := (hBr.cell (p := ⟨b, off + j * 4 + 2, none⟩) (by show b < _; omega)).trans e2
      have g3 := (hBr.cell (p := ⟨b, off + j * 4 + 3, none⟩) (by show b < _; omega)).trans e3
      have l0 := (hBr.cell (p := ⟨b', off' + j * 4, none⟩) (by show b' < _; omega)).trans k0
      have l1 := (hBr.cell (p := ⟨b', off' + j * 4 + 1, none⟩) (by show b' < _; omega)).trans k1
      have l2 := (hBr.cell (p := ⟨b', off' + j * 4 + 2, none⟩) (by show b' < _; omega)).trans k2
      have l3 := (hBr.cell (p := ⟨b', off' + j * 4 + 3, none⟩) (by show b' < _; omega)).trans k3
      have HS := Lib.hid (IH.out us[j] (List.getElem_mem hlt) us'[j] c0 c1 c2 c3 d0 d1 d2 d3 wr.drew (hc.below (hBr.mono hB).drew) (hd.below (hBr.mono hB).drew) (by show B ≤ wr.heap.size; omega))
      have hBd : Below W.heap.size W wr.drew := hBr.drew
      have hsd : W.heap.size ≤ wr.drew.heap.size := hsz
      have HBD := Lib.hid hBd
      have HSD := Lib.hid hsd
      cases hs : sameB us[j] us'[j]
      all_goals
        rw [hs] at hk HS
        first | rw [Bool.true_and] at hk | rw [Bool.false_and] at hk
        have HK := Lib.hid hk
        clear e0 e1 e2 e3 k0 k1 k2 k3 hc hd hs hBd hk hsd hlen
        have i1 : (0 : Int) ≤ (j : Int) := by omega
        have i2 : (j : Int) < (us.length : Int) := by omega
        go_wp2_with fail
        go_still_tail 8, (by kernel_rfl)
        change wpList _ _ _ _ _ wr.drew
        go_wp2_with (go_at_call 28; refine HS.out.mono ?_)
        clear HS
        rintro e W2 ⟨rfl, hB2⟩
        have hB2' : Below W.heap.size W W2 := HBD.out.trans (hB2.mono HSD.out)
        clear hB2
        go_wp2_with fail
      · go_ret
        exact ⟨by rw [← HK.out]; rfl, hB2'⟩
      · go_roundw
        case rel => exact ⟨j + 1, by omega, by go_num, HK.out, hB2'⟩
        case measure => simp [intOf]; omega
    · rw [List.drop_eq_nil_of_le (by omega), List.drop_eq_nil_of_le (by have := HL.out; omega)] at hk
      simp only [sameL] at hk
      subst hk
      have HB := Lib.hid hBr
      clear hBr
      go_wp2
      go_ret
      exact ⟨rfl, HB.out⟩

set_option maxRecDepth 100000 in
set_option maxHeartbeats 2000000 in
theorem sameTerm_at (B : Nat) (t : Tm) : SmAt B t := by
  induction t using Tm.ind with
  | h k n s us ih =>
    rintro ⟨k', n', s', us'⟩ c0 c1 c2 c3 d0 d1 d2 d3 W h1 h2 hB
    simp only [IsTm] at h1 h2
    obtain ⟨rfl, hk, rfl, hn, rfl, hs, a, cap, rfl, hl, hargs⟩ := h1
    obtain ⟨rfl, hk', rfl, hn', rfl, hs', a', cap', rfl, hl', hargs'⟩ := h2
    have hB1 : Below W.heap.size W ((W.alloc (.cells #[.int .u8 k, .int .i64 n, .string s, .slice a us.length cap] 32)).alloc (.cells #[.int .u8 k', .int .i64 n', .string s', .slice a' us'.length cap'] 32)) :=
      ((Below.refl _ W).alloc (Nat.le_refl _) _).alloc (by simp) _
    have hS := sameTerms_at B us us' ih a a' cap cap' _ (Nat.le_trans hB hB1.size) hl hl' (fun hne => by obtain ⟨b, off, h1, h2, h3⟩ := hargs hne; exact ⟨b, off, h1, h2, h3.below (hB1.mono hB) h2⟩)
      (fun hne => by obtain ⟨b, off, h1, h2, h3⟩ := hargs' hne; exact ⟨b, off, h1, h2, h3.below (hB1.mono hB) h2⟩)
    have hR : sameB (.mk k n s us) (.mk k' n' s' us') = ((k == k') && ((n == n') && ((s.toList == s'.toList) && sameL us us'))) := by simp only [sameB]
    have HS := Lib.hid hS
    have HB := Lib.hid hB1
    clear hS hB1 hargs hargs' ih hl hs hn hk hl' hs' hn' hk'
    cases e1 : k == k' <;> rw [e1] at hR
    · rw [Bool.false_and] at hR
      have HR := Lib.hid hR
      clear hR
      go_enter Tryz.func28, Tryz.ntmps28
      go_wp2
      go_ret
      exact ⟨by rw [HR.out]; rfl, HB.out⟩
    cases e2 : n == n' <;> rw [e2] at hR
    · rw [Bool.false_and, Bool.and_false] at hR
      have HR := Lib.hid hR
      clear hR
      go_enter Tryz.func28, Tryz.ntmps28
      go_wp2
      go_ret
      exact ⟨by rw [HR.out]; rfl, HB.out⟩
    cases e3 : s.toList == s'.toList <;> rw [e3] at hR
    · rw [Bool.false_and, Bool.and_false, Bool.and_false] at hR
      have HR := Lib.hid hR
      clear hR
      go_enter Tryz.func28, Tryz.ntmps28
      go_wp2
      go_ret
      exact ⟨by rw [HR.out]; rfl, HB.out⟩
    · rw [Bool.true_and, Bool.true_and, Bool.true_and] at hR
      have HR := Lib.hid hR
      clear hR
      go_enter Tryz.func28, Tryz.ntmps28
      go_wp2_with (go_at_call 29; refine HS.out.mono ?_; clear HS; rintro e W2 ⟨rfl, hB2⟩)
      have hBf := HB.out.trans (hB2.mono HB.out.size)
      go_ret
      exact ⟨by rw [HR.out]; rfl, hBf⟩

theorem sameTerm_any (t t' : Tm) (c0 c1 c2 c3 d0 d1 d2 d3 : Value) (W : World) (h : IsTm W.heap.size W c0 c1 c2 c3 t) (h' : IsTm W.heap.size W d0 d1 d2 d3 t') :
    Calls Tryz.prog 28 #[.agg #[c0, c1, c2, c3], .agg #[d0, d1, d2, d3]] W fun e W' => e = .returned (.bool (sameB t t')) ∧ Below W.heap.size W W' :=
  sameTerm_at W.heap.size t t' c0 c1 c2 c3 d0 d1 d2 d3 W h h' (Nat.le_refl _)


theorem small_count {us : List Tm} (h : sizeL us 0 300 ≤ 300) : Tm.countL us ≤ 300 := by
  have := sizeL_whole us 0 300 h
  omega
end Go.Proofs.YtnobmffgchlijaaGreatDoor
