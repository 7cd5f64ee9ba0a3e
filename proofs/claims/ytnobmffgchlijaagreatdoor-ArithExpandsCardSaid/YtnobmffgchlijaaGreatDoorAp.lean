/- Package arith: expand. -/
import Derived.Test.YtnobmffgchlijaaGreatDoorAo
namespace Go.Proofs.YtnobmffgchlijaaGreatDoor
open Go.RowKit Go.Shelf
attribute [local go_sem] Oper.semAt_some

theorem ExpPost.from {t : Tm} {w w1 w2 : World} {e : Ending} (h : ExpPost t w1 e w2) (hb : Below w.heap.size w w1) : ExpPost t w e w2 := by
  rcases h with ⟨ts, v, h1, h2, h3, h4⟩ | ⟨h1, h2, h4⟩
  · exact .inl ⟨ts, v, h1, h2, h3.lower hb.size, hb.trans (h4.mono hb.size)⟩
  · exact .inr ⟨h1, h2, hb.trans (h4.mono hb.size)⟩

set_option maxRecDepth 100000 in
set_option maxHeartbeats 40000000 in
theorem expand_any (t : Tm) : ExpAt t := by
  induction t using Tm.ind with
  | h k n s us ih =>
    intro c0 c1 c2 c3 w h hw
    have h0 := h
    simp only [IsTm] at h
    obtain ⟨rfl, hk, rfl, hn, rfl, hss, a, cap, rfl, hl, ha⟩ := h
    have hB1 : Below w.heap.size w (w.alloc (.cells #[.int .u8 k, .int .i64 n, .string s, .slice a us.length cap] 32)) := (Below.refl _ w).alloc (Nat.le_refl _) _
    have hi := (h0.below hB1).mono hB1.size
    have HB := Lib.hid hB1
    clear hB1 ha h0
    by_cases h4 : k = 4
    · subst h4
      have HC := Lib.hid (function_any n s us ih _ _ _ _ _ hi hw)
      clear hi ih hw
      go_enter Tryz.func39, Tryz.ntmps39
      go_wp2_with (go_at_call 66; refine (HC.out.mono fun e w2 h => h.from HB.out).mono ?_; clear HC; rintro e w2 (⟨ts, v, r1, rfl, r3, r4⟩ | ⟨r1, rfl, r4⟩))
      · go_ret
        exact .inl ⟨ts, v, r1, rfl, r3, r4⟩
      · exact ⟨rfl, .inr ⟨r1, rfl, r4⟩⟩
    · have k4 : (k == 4) = false := by simpa using h4
      by_cases h5 : k = 5
      · subst h5
        have HC := Lib.hid (operation_any n s us ih _ _ _ _ _ hi hw)
        clear hi ih hw
        go_enter Tryz.func39, Tryz.ntmps39
        go_wp2_with (go_at_call 67; refine (HC.out.mono fun e w2 h => h.from HB.out).mono ?_; clear HC; rintro e w2 (⟨ts, v, r1, rfl, r3, r4⟩ | ⟨r1, rfl, r4⟩))
        · go_ret
          exact .inl ⟨ts, v, r1, rfl, r3, r4⟩
        · exact ⟨rfl, .inr ⟨r1, rfl, r4⟩⟩
      · have k5 : (k == 5) = false := by simpa using h5
        by_cases h6 : k = 6
        · subst h6
          have HC := Lib.hid (span_any n s us ih _ _ _ _ _ hi hw)
          clear hi ih hw
          go_enter Tryz.func39, Tryz.ntmps39
          go_wp2_with (go_at_call 68; refine (HC.out.mono fun e w2 h => h.from HB.out).mono ?_; clear HC; rintro e w2 (⟨ts, v, r1, rfl, r3, r4⟩ | ⟨r1, rfl, r4⟩))
          · go_ret
            exact .inl ⟨ts, v, r1, rfl, r3, r4⟩
          · exact ⟨rfl, .inr ⟨r1, rfl, r4⟩⟩
        · have k6 : (k == 6) = false := by simpa using h6
          have HE := Lib.hid (Tm.exp_leaf (n := n) (s := s) (args := us) h4 h5 h6)
          clear hi ih hw h4 h5 h6
          go_enter Tryz.func39, Tryz.ntmps39
          go_wp2
          go_ret
          refine .inl ⟨_, _, HE.out, rfl, ?_, HB.out.alloc HB.out.size _⟩
          have hnw := World.alloc_heap_new (w.alloc (.cells #[.int .u8 k, .int .i64 n, .string s, .slice a us.length cap] 32)) (.cells #[.int .u8 k, .int .i64 n, .string s, .slice none 0 0] 32)
          rw [World.size_alloc] at hnw
          refine Vals.one (g := w.heap.size + 1) (by omega) hnw ?_
          simp only [IsTmIn]
          exact ⟨trivial, hk, trivial, hn, trivial, hss, none, 0, rfl, by simp, fun h => absurd rfl h⟩
end Go.Proofs.YtnobmffgchlijaaGreatDoor
