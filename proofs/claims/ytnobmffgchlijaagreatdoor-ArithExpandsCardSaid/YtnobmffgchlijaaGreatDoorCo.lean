/- Package term: Compare and Equal. -/
import Derived.Test.YtnobmffgchlijaaGreatDoorCm
import Derived.StillTailTactics
import Derived.RangeFuncBox
namespace Go.Proofs.YtnobmffgchlijaaGreatDoor
open Go.RowKit

theorem rank_q (k : Int) (w : World) (hk : 0 ≤ k ∧ k ≤ 255) : Calls Tryz.prog 42 #[.int .u8 k] w fun e w' => e = .returned (.int .i64 (rankI k)) ∧ w' = w := (rank_any k w hk).mono fun _ _ ⟨h, h'⟩ => ⟨h, h'.symm⟩
theorem compareString_q (s t : ByteArray) (w : World) : Calls Tryz.prog 44 #[.string s, .string t] w fun e w' => e = .returned (.int .i64 (strCmp s t)) ∧ w' = w := (compareString_any s t w).mono fun _ _ ⟨h, h'⟩ => ⟨h, h'.symm⟩

set_option maxRecDepth 100000 in
set_option maxHeartbeats 2000000 in
theorem compare_any (B : Nat) (t : Tm) : CmpAt B t := by
  induction t using Tm.ind with
  | h k n s us ih =>
    rintro ⟨k', n', s', us'⟩ c0 c1 c2 c3 d0 d1 d2 d3 W h1 h2 hB
    simp only [IsTm] at h1 h2
    obtain ⟨rfl, hk, rfl, hn, rfl, hs, a, cap, rfl, hl, hargs⟩ := h1
    obtain ⟨rfl, hk', rfl, hn', rfl, hs', a', cap', rfl, hl', hargs'⟩ := h2
    have HA := Lib.hid hargs; clear hargs
    have HA' := Lib.hid hargs'; clear hargs'
    have IH := Lib.hid ih; clear ih
    go_enter Tryz.func19, Tryz.ntmps19
    go_wp2_with fail
    go_quiet (first | (go_at_call 42; exact Calls.quiet_of_same (rank_q _ _ (by assumption))) | (go_at_call 41; exact Calls.quiet_of_same (Tryz.cmp_Compare_int _ _ _)))
    generalize hW1 : World.drewN _ _ = W1
    have hz1 : W1.heap.size = W.heap.size + 2 := by rw [← hW1]; show ((W.alloc _).alloc _).heap.size = _; simp
    have hB1 : Below W.heap.size W W1 := by
      rw [← hW1]
      have := (((Below.refl _ W).alloc (Nat.le_refl _) (.cells #[.int .u8 k, .int .i64 n, .string s, .slice a us.length cap] 32)).alloc (by simp) (.cells #[.int .u8 k', .int .i64 n', .string s', .slice a' us'.length cap'] 32))
      exact ⟨this.os, this.tape, this.output, this.size, this.block⟩
    have hx : W1.heap[W.heap.size]? = some (.cells #[.int .u8 k, .int .i64 n, .string s, .slice a us.length cap] 32 (0, 0)) := by
      rw [← hW1]; exact (Below.heap_alloc _ _ _ (by simp)).trans (World.alloc_heap_new W _)
    have hy : W1.heap[W.heap.size + 1]? = some (.cells #[.int .u8 k', .int .i64 n', .string s', .slice a' us'.length cap'] 32 (0, 0)) := by
      rw [← hW1]
      have := World.alloc_heap_new (W.alloc (.cells #[.int .u8 k, .int .i64 n, .string s, .slice a us.length cap] 32)) (.cells #[.int .u8 k', .int .i64 n', .string s', .slice a' us'.length cap'] 32)
      rw [World.size_alloc] at this; exact this
    have x0 := cells_at hx 0 _ rfl
    have x1 := cells_at hx 1 _ rfl
    have x2 := cells_at hx 2 _ rfl
    have x3 := cells_at hx 3 _ rfl
    have y0 := cells_at hy 0 _ rfl
    have y1 := cells_at hy 1 _ rfl
    have y2 := cells_at hy 2 _ rfl
    have y3 := cells_at hy 3 _ rfl
    have HX := Lib.hid hx
    have HY := Lib.hid hy
    clear hW1 hx hy
    have HZ1 := Lib.hid hz1; clear hz1
    have hc : Tm.cmp (.mk k n s us) (.mk k' n' s' us') = (if Lib.compareInt (rankI k) (rankI k') ≠ 0 then Lib.compareInt (rankI k) (rankI k')
      else if k = 1 ∧ n ≠ n' then Lib.compareInt n n'
      else if orI (Lib.compareInt us.length us'.length) (strCmp s s') ≠ 0 then orI (Lib.compareInt us.length us'.length) (strCmp s s')
      else if Tm.cmpL us us' ≠ 0 then Tm.cmpL us us'
      else Lib.compareInt n n') := by simp only [Tm.cmp]
    have HC := Lib.hid hc; clear hc
    by_cases hc1 : Lib.compareInt (rankI k) (rankI k') = 0
    · have HC1 := Lib.hid hc1
      have e1 : (Lib.compareInt (rankI k) (rankI k') != 0) = false := by simpa using hc1
      clear hc1
      by_cases hk1 : k = 1 ∧ n ≠ n'
      · obtain ⟨rfl, hnn⟩ := hk1
        have HNN := Lib.hid hnn
        have e2 : (n != n') = true := by simpa using hnn
        clear hnn
        go_wp2_with (go_at_call 41; refine (Tryz.cmp_Compare_int _ _ _).mono ?_; rintro e W2 ⟨rfl, rfl⟩)
        go_ret
        exact ⟨by rw [HC.out, if_neg (by simpa using HC1.out), if_pos (by simpa using HNN.out)]; rfl, hB1⟩
      · have HK1 := Lib.hid hk1
        have e3 : (k == 1) = false ∨ ((k == 1) = true ∧ (n != n') = false) := by
          by_cases e : k = 1
          · right; refine ⟨by simpa using e, ?_⟩
            have : n = n' := by
              by_cases h : n = n'
              · exact h
              · exact absurd ⟨e, h⟩ hk1
            simpa using this
          · left; simpa using e
        clear hk1
        rcases e3 with e3 | ⟨e3, e4⟩
        all_goals
          go_wp2_with fail
          go_still_tail 12, (by kernel_rfl)
          still_call (Tryz.cmp_Compare_int _ _ _)
          repeat still_step
          still_call (compareString_q _ _ _)
          refine wpStill_nil ?_
          change wpList _ _ _ _ _ W1.drew
          have hO := or_two W1.heap.size (Lib.compareInt us.length us'.length) (strCmp s s') 2 (W1.alloc (.cells #[.int .i64 (Lib.compareInt us.length us'.length), .int .i64 (strCmp s s')] 3)).drew
            (cells_at (World.alloc_heap_new W1 (.cells #[.int .i64 (Lib.compareInt us.length us'.length), .int .i64 (strCmp s s')] 3)) 0 _ rfl) (cells_at (World.alloc_heap_new W1 (.cells #[.int .i64 (Lib.compareInt us.length us'.length), .int .i64 (strCmp s s')] 3)) 1 _ rfl)
          have HO := Lib.hid hO; clear hO
          go_wp2_with (go_at_call 43; refine HO.out.mono ?_)
          clear HO
          rintro e W3' ⟨rfl, hW3⟩
          have hB3 : Below W.heap.size W W3' := by rw [← hW3]; exact (hB1.alloc (by rw [HZ1.out]; omega) _).drew
          have hz3 : W3'.heap.size = W.heap.size + 3 := by rw [← hW3]; show (W1.alloc _).heap.size = _; rw [World.size_alloc, HZ1.out]
          have hx : W3'.heap[W.heap.size]? = some (.cells #[.int .u8 k, .int .i64 n, .string s, .slice a us.length cap] 32 (0, 0)) := by
            rw [← hW3]; exact (Below.heap_alloc _ _ _ (by rw [HZ1.out]; omega)).trans HX.out
          have hy : W3'.heap[W.heap.size + 1]? = some (.cells #[.int .u8 k', .int .i64 n', .string s', .slice a' us'.length cap'] 32 (0, 0)) := by
            rw [← hW3]; exact (Below.heap_alloc _ _ _ (by rw [HZ1.out]; omega)).trans HY.out
          clear hW3 HX HY x0 x1 x2 x3 y0 y1 y2 y3
          have x3 := cells_at hx 3 _ rfl
          have y3 := cells_at hy 3 _ rfl
          have HX := Lib.hid hx
          have HY := Lib.hid hy
          have HZ3 := Lib.hid hz3
          clear hx hy hz3
          by_cases hor : orI (Lib.compareInt us.length us'.length) (strCmp s s') = 0
          · have HOR := Lib.hid hor
            have e5 : (orI (Lib.compareInt us.length us'.length) (strCmp s s') != 0) = false := by simpa using hor
            clear hor
            have hF := compareFunc_any B us us' IH.out a a' cap cap' W3' (by rw [HZ3.out]; omega) hl hl'
              (fun h => by obtain ⟨b, off, h1, h2, h3⟩ := HA.out h; exact ⟨b, off, h1, h2, h3.below (hB3.mono hB) h2⟩)
              (fun h => by obtain ⟨b, off, h1, h2, h3⟩ := HA'.out h; exact ⟨b, off, h1, h2, h3.below (hB3.mono hB) h2⟩)
            have HF := Lib.hid hF; clear hF
            go_wp2_with (go_at_call 45; refine HF.out.mono ?_)
            clear HF
            rintro e W4 ⟨rfl, hB4⟩
            have hx := (hB4.block _ (by rw [HZ3.out]; omega)).trans HX.out
            have hy := (hB4.block _ (by rw [HZ3.out]; omega)).trans HY.out
            have x1 := cells_at hx 1 _ rfl
            have y1 := cells_at hy 1 _ rfl
            have hBf : Below W.heap.size W W4 := hB3.trans (hB4.mono (by rw [HZ3.out]; omega))
            clear hx hy hB4
            by_cases hcf : Tm.cmpL us us' = 0
            · have HCF := Lib.hid hcf
              have e6 : (Tm.cmpL us us' != 0) = false := by simpa using hcf
              clear hcf
              go_wp2_with (go_at_call 41; refine (Tryz.cmp_Compare_int _ _ _).mono ?_; rintro e W5 ⟨rfl, rfl⟩)
              go_ret
              exact ⟨by rw [HC.out, if_neg (by simpa using HC1.out), if_neg HK1.out, if_neg (by simpa using HOR.out), if_neg (by simpa using HCF.out)]; rfl, hBf⟩
            · have HCF := Lib.hid hcf
              have e6 : (Tm.cmpL us us' != 0) = true := by simpa using hcf
              clear hcf
              go_wp2
              go_ret
              exact ⟨by rw [HC.out, if_neg (by simpa using HC1.out), if_neg HK1.out, if_neg (by simpa using HOR.out), if_pos HCF.out]; rfl, hBf⟩
          · have HOR := Lib.hid hor
            have e5 : (orI (Lib.compareInt us.length us'.length) (strCmp s s') != 0) = true := by simpa using hor
            clear hor
            go_wp2
            go_ret
            exact ⟨by rw [HC.out, if_neg (by simpa using HC1.out), if_neg HK1.out, if_pos HOR.out]; rfl, hB3⟩
    · have HC1 := Lib.hid hc1
      have e1 : (Lib.compareInt (rankI k) (rankI k') != 0) = true := by simpa using hc1
      clear hc1
      go_wp2
      go_ret
      exact ⟨by rw [HC.out, if_pos HC1.out]; rfl, hB1⟩
end Go.Proofs.YtnobmffgchlijaaGreatDoor
