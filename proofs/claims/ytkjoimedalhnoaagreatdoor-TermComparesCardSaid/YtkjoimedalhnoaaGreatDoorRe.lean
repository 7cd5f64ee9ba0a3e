/- The reference model's Equal. -/
import Derived.Test.YtkjoimedalhnoaaGreatDoorOr
import Derived.Test.YtkjoimedalhnoaaGreatDoorSm
import Derived.StillTailTactics
import Derived.RangeFuncBox
namespace Go.Proofs.YtkjoimedalhnoaaGreatDoor
open Go.RowKit

/-- The reference model's Equal at one term. -/
def ReAt (B : Nat) (t : Tm) : Prop := ∀ (t' : Tm) (c0 c1 c2 c3 d0 d1 d2 d3 : Value) (W : World), IsTm B W c0 c1 c2 c3 t → IsTm B W d0 d1 d2 d3 t' → B ≤ W.heap.size →
  Calls Tryz.prog 53 #[.agg #[c0, c1, c2, c3], .agg #[d0, d1, d2, d3]] W fun e W' => e = .returned (.bool (sameB t t')) ∧ Below W.heap.size W W'

set_option maxRecDepth 100000 in
set_option maxHeartbeats 4000000 in
theorem requal_at (B : Nat) (t : Tm) : ReAt B t := by
  induction t using Tm.ind with
  | h k n s us ih =>
    rintro ⟨k', n', s', us'⟩ c0 c1 c2 c3 d0 d1 d2 d3 W h1 h2 hB
    simp only [IsTm] at h1 h2
    obtain ⟨rfl, hk, rfl, hn, rfl, hs, a, cap, rfl, hl, hargs⟩ := h1
    obtain ⟨rfl, hk', rfl, hn', rfl, hs', a', cap', rfl, hl', hargs'⟩ := h2
    unfold maxLen at hl hl'
    have hB1 : Below W.heap.size W ((W.alloc (.cells #[.int .u8 k, .int .i64 n, .string s, .slice a us.length cap] 24)).alloc (.cells #[.int .u8 k', .int .i64 n', .string s', .slice a' us'.length cap'] 24)) :=
      ((Below.refl _ W).alloc (Nat.le_refl _) _).alloc (by simp) _
    have hx : ((W.alloc (.cells #[.int .u8 k, .int .i64 n, .string s, .slice a us.length cap] 24)).alloc (.cells #[.int .u8 k', .int .i64 n', .string s', .slice a' us'.length cap'] 24)).heap[W.heap.size]? =
        some (.cells #[.int .u8 k, .int .i64 n, .string s, .slice a us.length cap] 24 (0, 0)) := (Below.heap_alloc _ _ _ (by simp)).trans (World.alloc_heap_new W _)
    have hy : ((W.alloc (.cells #[.int .u8 k, .int .i64 n, .string s, .slice a us.length cap] 24)).alloc (.cells #[.int .u8 k', .int .i64 n', .string s', .slice a' us'.length cap'] 24)).heap[W.heap.size + 1]? =
        some (.cells #[.int .u8 k', .int .i64 n', .string s', .slice a' us'.length cap'] 24 (0, 0)) := by
      have := World.alloc_heap_new (W.alloc (.cells #[.int .u8 k, .int .i64 n, .string s, .slice a us.length cap] 24)) (.cells #[.int .u8 k', .int .i64 n', .string s', .slice a' us'.length cap'] 24)
      rw [World.size_alloc] at this; exact this
    have hR : sameB (.mk k n s us) (.mk k' n' s' us') = ((k == k') && ((n == n') && ((s.toList == s'.toList) && sameL us us'))) := by simp only [sameB]
    have HA := Lib.hid hargs
    have HA' := Lib.hid hargs'
    have IH := Lib.hid ih
    clear hargs hargs' ih
    by_cases h1 : k = k'
    case neg =>
      have e0 : (k == k') = false := by simpa using h1
      have e1 : (k != k') = true := by simpa using h1
      rw [e0, Bool.false_and] at hR
      have HR := Lib.hid hR
      clear hR
      go_enter Tryz.func53, Tryz.ntmps53
      go_wp2
      go_ret
      exact ⟨by rw [HR.out]; rfl, hB1⟩
    by_cases h2 : n = n'
    case neg =>
      have e0 : (n == n') = false := by simpa using h2
      have e1 : (n != n') = true := by simpa using h2
      subst h1
      rw [e0, Bool.false_and, Bool.and_false] at hR
      have HR := Lib.hid hR
      clear hR
      go_enter Tryz.func53, Tryz.ntmps53
      go_wp2
      go_ret
      exact ⟨by rw [HR.out]; rfl, hB1⟩
    cases h3 : s.toList == s'.toList
    case false =>
      have e1 : (s.toList != s'.toList) = true := by simp [bne, h3]
      subst h1 h2
      rw [h3, Bool.false_and, Bool.and_false, Bool.and_false] at hR
      have HR := Lib.hid hR
      clear hR
      go_enter Tryz.func53, Tryz.ntmps53
      go_wp2
      go_ret
      exact ⟨by rw [HR.out]; rfl, hB1⟩
    have e3 : (s.toList != s'.toList) = false := by simp [bne, h3]
    rw [h3, Bool.true_and] at hR
    subst h1 h2
    rw [beq_self_eq_true, beq_self_eq_true, Bool.true_and, Bool.true_and] at hR
    by_cases hlen : us.length = us'.length
    case neg =>
      have e4 : ((us.length : Int) != (us'.length : Int)) = true := by simp; omega
      rw [sameL_len hlen] at hR
      have HR := Lib.hid hR
      clear hR
      go_enter Tryz.func53, Tryz.ntmps53
      go_wp2
      go_ret
      exact ⟨by rw [HR.out]; rfl, hB1⟩
    rw [hR]
    obtain ⟨R, hRR⟩ : ∃ R, sameL us us' = R := ⟨_, rfl⟩
    rw [hRR]
    have e4 : ((us.length : Int) != (us'.length : Int)) = false := by simp; omega
    have HLN := Lib.hid hlen
    have i4 : (us.length : Int) = (us'.length : Int) := by omega
    clear hlen hR i4
    go_enter Tryz.func53, Tryz.ntmps53
    go_wp2_with fail
    clear h3 e3 e4
    revert hB1 hx hy
    generalize ((W.alloc (.cells #[.int .u8 k, .int .i64 n, .string s, .slice a us.length cap] 24)).alloc (.cells #[.int .u8 k, .int .i64 n, .string s', .slice a' us'.length cap'] 24)) = W1
    intro hB1 hx hy
    go_loopw [5] (fun i wr => ∃ (j : Nat), j ≤ us.length ∧ i = .int .i64 j ∧ sameL (us.drop j) (us'.drop j) = R ∧ Below W.heap.size W wr ∧
      wr.heap[W.heap.size]? = some (.cells #[.int .u8 k, .int .i64 n, .string s, .slice a us.length cap] 24 (0, 0)) ∧ wr.heap[W.heap.size + 1]? = some (.cells #[.int .u8 k, .int .i64 n, .string s', .slice a' us'.length cap'] 24 (0, 0)))
      (fun i _ => us.length - (intOf i).toNat)
    case atStart => exact ⟨0, by omega, by go_num, by simpa using hRR, hB1, hx, hy⟩
    case round =>
      clear hB1 hx hy hRR
      obtain ⟨j, hj, rfl, hk', hBr, hxr, hyr⟩ := hrel
      have x3 := cells_at hxr 3 _ rfl
      have y3 := cells_at hyr 3 _ rfl
      have HXR := Lib.hid hxr
      have HYR := Lib.hid hyr
      clear hxr hyr
      by_cases hlt : j < us.length
      · have hlt' : j < us'.length := by have := HLN.out; omega
        rw [List.drop_eq_getElem_cons (l := us) hlt, List.drop_eq_getElem_cons (l := us') hlt'] at hk'
        simp only [sameL] at hk'
        obtain ⟨b, off, rfl, hb, hI⟩ := HA.out (by intro e; rw [e] at hlt; simp at hlt)
        obtain ⟨b', off', rfl, hb', hI'⟩ := HA'.out (by intro e; rw [e] at hlt'; simp at hlt')
        obtain ⟨c0, c1, c2, c3, e0, e1, e2, e3, hc⟩ := hI.at j hlt
        obtain ⟨d0, d1, d2, d3, k0, k1, k2, k3, hd⟩ := hI'.at j hlt'
        have hsz := hBr.size
        have g0 := (hBr.cell (p := ⟨b, off + j * 4, none⟩) (by show b < _; omega)).trans e0
        have g1 := (hBr.cell (p := ⟨b, off + j * 4 + 1, none⟩) (by show b < _; omega)).trans e1
        have g2 := (hBr.cell (p := ⟨b, off + j * 4 + 2, none⟩) (by show b < _; omega)).trans e2
        have g3 := (hBr.cell (p := ⟨b, off + j * 4 + 3, none⟩) (by show b < _; omega)).trans e3
        have l0 := (hBr.cell (p := ⟨b', off' + j * 4, none⟩) (by show b' < _; omega)).trans k0
        have l1 := (hBr.cell (p := ⟨b', off' + j * 4 + 1, none⟩) (by show b' < _; omega)).trans k1
        have l2 := (hBr.cell (p := ⟨b', off' + j * 4 + 2, none⟩) (by show b' < _; omega)).trans k2
        have l3 := (hBr.cell (p := ⟨b', off' + j * 4 + 3, none⟩) (by show b' < _; omega)).trans k3
        have HS := Lib.hid (IH.out us[j] (List.getElem_mem hlt) us'[j] c0 c1 c2 c3 d0 d1 d2 d3 wr.drew (hc.below (hBr.mono hB).drew) (hd.below (hBr.mono hB).drew) (by show B ≤ wr.heap.size; omega))
        have hBd : Below W.heap.size W wr.drew := hBr.drew
        have hsd : W.heap.size ≤ wr.drew.heap.size := hsz
        have HBD := Lib.hid hBd
        have HSD := Lib.hid hsd
        cases hs2 : sameB us[j] us'[j]
        all_goals
          rw [hs2] at hk' HS
          first | rw [Bool.true_and] at hk' | rw [Bool.false_and] at hk'
          have HK := Lib.hid hk'
          clear e0 e1 e2 e3 k0 k1 k2 k3 hc hd hs2 hBd hk' hsd
          have i1 : (0 : Int) ≤ (j : Int) := by omega
          have i2 : (j : Int) < (us.length : Int) := by omega
          have i3 : (j : Int) < (us'.length : Int) := by omega
          go_wp2_with fail
          go_still_tail 10, (by kernel_rfl)
          change wpList _ _ _ _ _ wr.drew
          go_wp2_with (go_at_call 53; refine HS.out.mono ?_)
          clear HS
          rintro e W2 ⟨rfl, hB2⟩
          have hB2' : Below W.heap.size W W2 := HBD.out.trans (hB2.mono HSD.out)
          have hx2 := (hB2.block W.heap.size (by show W.heap.size < wr.heap.size; exact (Array.getElem?_eq_some_iff.1 HXR.out).1)).trans HXR.out
          have hy2 := (hB2.block (W.heap.size + 1) (by show W.heap.size + 1 < wr.heap.size; exact (Array.getElem?_eq_some_iff.1 HYR.out).1)).trans HYR.out
          have HX2 := Lib.hid hx2
          have HY2 := Lib.hid hy2
          clear hB2 hx2 hy2
          go_wp2_with fail
        · go_ret
          exact ⟨by rw [← HK.out]; rfl, hB2'⟩
        · go_roundw
          case rel => exact ⟨j + 1, by omega, by go_num, HK.out, hB2', HX2.out, HY2.out⟩
          case measure => simp [intOf]; omega
      · rw [List.drop_eq_nil_of_le (by omega), List.drop_eq_nil_of_le (by have := HLN.out; omega)] at hk'
        simp only [sameL] at hk'
        subst hk'
        have HB := Lib.hid hBr
        clear hBr
        go_wp2
        go_ret
        exact ⟨rfl, HB.out⟩

theorem requal_any (t t' : Tm) (c0 c1 c2 c3 d0 d1 d2 d3 : Value) (W : World) (h : IsTm W.heap.size W c0 c1 c2 c3 t) (h' : IsTm W.heap.size W d0 d1 d2 d3 t') :
    Calls Tryz.prog 53 #[.agg #[c0, c1, c2, c3], .agg #[d0, d1, d2, d3]] W fun e W' => e = .returned (.bool (Tm.cmp t t' == 0)) ∧ Below W.heap.size W W' := by
  have e : sameB t t' = (Tm.cmp t t' == 0) := by
    rw [Bool.eq_iff_iff, sameB_iff, beq_iff_eq, cmp_zero t t' (good_of h) (good_of h')]
  rw [← e]
  exact requal_at W.heap.size t t' c0 c1 c2 c3 d0 d1 d2 d3 W h h' (Nat.le_refl _)
end Go.Proofs.YtkjoimedalhnoaaGreatDoor
