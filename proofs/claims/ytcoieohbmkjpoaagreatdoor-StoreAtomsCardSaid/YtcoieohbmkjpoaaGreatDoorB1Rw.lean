/- The reference model's Compare: its walk. -/
import Derived.Test.YtcoieohbmkjpoaaGreatDoorB1Rc
import Derived.Test.YtcoieohbmkjpoaaGreatDoorB1a
namespace Go.Proofs.YtcoieohbmkjpoaaGreatDoor
open Go.RowKit

/-- The reference model's Compare at one term. -/
def RcAt (B : Nat) (t : Tm) : Prop := ∀ (t' : Tm) (c0 c1 c2 c3 d0 d1 d2 d3 : Value) (W : World), IsTm B W c0 c1 c2 c3 t → IsTm B W d0 d1 d2 d3 t' → B ≤ W.heap.size → t.count ≤ 1000000 →
  Calls Tryz.prog 48 #[.agg #[c0, c1, c2, c3], .agg #[d0, d1, d2, d3]] W fun e W' => e = .returned (.int .i64 (Tm.cmp t t')) ∧ Below W.heap.size W W'

theorem Tm.count_mem : ∀ {ts : List Tm} {t : Tm}, t ∈ ts → t.count ≤ Tm.countL ts
  | a :: ts, t, h => by
    simp only [Tm.countL]
    rcases List.mem_cons.1 h with rfl | h
    · omega
    · have := Tm.count_mem h; omega
theorem Tm.length_le_count : ∀ ts : List Tm, ts.length ≤ Tm.countL ts
  | [] => by simp [Tm.countL]
  | t :: ts => by
    have h1 := Tm.length_le_count ts
    have h2 : 1 ≤ t.count := by cases t; simp only [Tm.count]; omega
    simp only [Tm.countL, List.length_cons]; omega

theorem own_grow {w w' : World} {base : Nat} {e : TypeId} {size : Nat} {v : Value} {n : Nat} {xs : List Value} (h : w.ownsRow base e size v n xs) (hb : Below w.heap.size w w') : w'.ownsRow base e size v n xs :=
  h.kept (row := none) ⟨hb.os, hb.tape, hb.output, hb.size, fun k hk _ => hb.block k hk⟩ (by cases h1 : v.ownBlock <;> simp)
theorem info_int : (Tryz.prog.info? 3).map (fun i => (i.zero, i.size, i.bytes)) = some (some (.int .i64 0), 1, 8) := by kernel_rfl

set_option maxRecDepth 100000 in
set_option maxHeartbeats 4000000 in
theorem rcompare_at (B : Nat) (t : Tm) : RcAt B t := by
  induction t using Tm.ind with
  | h k n s us ih =>
    rintro ⟨k', n', s', us'⟩ c0 c1 c2 c3 d0 d1 d2 d3 W h1 h2 hB hcnt
    simp only [IsTm] at h1 h2
    obtain ⟨rfl, hk, rfl, hn, rfl, hs, a, cap, rfl, hl, hargs⟩ := h1
    obtain ⟨rfl, hk', rfl, hn', rfl, hs', a', cap', rfl, hl', hargs'⟩ := h2
    simp only [Tm.count] at hcnt
    obtain ⟨i0, hi0, hi1, hi2, hi3⟩ := info_parts info_int
    have HI := Lib.hid (And.intro hi0 (And.intro hi1 (And.intro hi2 hi3)))
    clear hi0 hi1 hi2 hi3
    have hlc := Tm.length_le_count us
    have hS := signs_cmp k n k' n' s s' us us'
    unfold signsOf at hS
    obtain ⟨C1, hC1⟩ : ∃ x, Lib.compareInt (rankI k) (rankI k') = x := ⟨_, rfl⟩
    obtain ⟨C3, hC3⟩ : ∃ x, Lib.compareInt us.length us'.length = x := ⟨_, rfl⟩
    obtain ⟨C4, hC4⟩ : ∃ x, strCmp s s' = x := ⟨_, rfl⟩
    obtain ⟨CN, hCN⟩ : ∃ x, Lib.compareInt n n' = x := ⟨_, rfl⟩
    have N1 := fun w => rnumbers_any (rankI k) (rankI k') w
    have N3 := fun w => rnumbers_any us.length us'.length w
    have N4 := fun w => rtexts_any s s' w
    have NN := fun w => rnumbers_any n n' w
    rw [hC1] at N1
    rw [hC3] at N3
    rw [hC4] at N4
    rw [hCN] at NN
    rw [hC1, hC3, hC4, hCN] at hS
    obtain ⟨C2, hC2⟩ : ∃ x, (if k = 1 then CN else 0) = x := ⟨_, rfl⟩
    rw [hC2] at hS
    have HC2 := Lib.hid hC2
    clear hC2
    rw [← hS]
    have HN1 := Lib.hid N1
    have HN3 := Lib.hid N3
    have HN4 := Lib.hid N4
    have HNN := Lib.hid NN
    clear N1 N3 N4 NN hC1 hC3 hC4 hCN
    have HA := Lib.hid hargs
    have HA' := Lib.hid hargs'
    have IH := Lib.hid ih
    clear hargs hargs' ih hS
    have hB1 : Below W.heap.size W ((W.alloc (.cells #[.int .u8 k, .int .i64 n, .string s, .slice a us.length cap] 46)).alloc (.cells #[.int .u8 k', .int .i64 n', .string s', .slice a' us'.length cap'] 46)) :=
      ((Below.refl _ W).alloc (Nat.le_refl _) _).alloc (by simp) _
    have hx : ((W.alloc (.cells #[.int .u8 k, .int .i64 n, .string s, .slice a us.length cap] 46)).alloc (.cells #[.int .u8 k', .int .i64 n', .string s', .slice a' us'.length cap'] 46)).heap[W.heap.size]? =
        some (.cells #[.int .u8 k, .int .i64 n, .string s, .slice a us.length cap] 46 (0, 0)) := (Below.heap_alloc _ _ _ (by simp)).trans (World.alloc_heap_new W _)
    have hy : ((W.alloc (.cells #[.int .u8 k, .int .i64 n, .string s, .slice a us.length cap] 46)).alloc (.cells #[.int .u8 k', .int .i64 n', .string s', .slice a' us'.length cap'] 46)).heap[W.heap.size + 1]? =
        some (.cells #[.int .u8 k', .int .i64 n', .string s', .slice a' us'.length cap'] 46 (0, 0)) := by
      have := World.alloc_heap_new (W.alloc (.cells #[.int .u8 k, .int .i64 n, .string s, .slice a us.length cap] 46)) (.cells #[.int .u8 k', .int .i64 n', .string s', .slice a' us'.length cap'] 46)
      rw [World.size_alloc] at this; exact this
    have hz1 : ((W.alloc (.cells #[.int .u8 k, .int .i64 n, .string s, .slice a us.length cap] 46)).alloc (.cells #[.int .u8 k', .int .i64 n', .string s', .slice a' us'.length cap'] 46)).heap.size = W.heap.size + 2 := by simp
    go_enter Tryz.func48, Tryz.ntmps48
    go_wp2_with fail
    revert hB1 hx hy hz1
    generalize ((W.alloc (.cells #[.int .u8 k, .int .i64 n, .string s, .slice a us.length cap] 46)).alloc (.cells #[.int .u8 k', .int .i64 n', .string s', .slice a' us'.length cap'] 46)) = W1
    intro hB1 hx hy hz1
    have x0 := cells_at hx 0 _ rfl
    have x1 := cells_at hx 1 _ rfl
    have x2 := cells_at hx 2 _ rfl
    have x3 := cells_at hx 3 _ rfl
    have y0 := cells_at hy 0 _ rfl
    have y1 := cells_at hy 1 _ rfl
    have y2 := cells_at hy 2 _ rfl
    have y3 := cells_at hy 3 _ rfl
    have HX := Lib.hid hx
    have HY := Lib.hid hy
    have HZ1 := Lib.hid hz1
    clear hx hy hz1
    go_still_tail 19, (by kernel_rfl)
    still_call (rrank_any _ _ hk)
    repeat still_step
    still_call (rrank_any _ _ hk')
    repeat still_step
    still_call (HN1.out _)
    repeat still_step
    still_call (HN3.out _)
    repeat still_step
    still_call (HN4.out _)
    refine wpStill_nil ?_
    change wpList _ _ _ _ _ W1.drew
    have hFX : ∀ X : Int, ((W1.alloc (.cells #[.int .i64 C1, .int .i64 X, .int .i64 C3, .int .i64 C4] 3)).drew).heap[W.heap.size]? = some (.cells #[.int .u8 k, .int .i64 n, .string s, .slice a us.length cap] 46 (0, 0)) ∧
        ((W1.alloc (.cells #[.int .i64 C1, .int .i64 X, .int .i64 C3, .int .i64 C4] 3)).drew).heap[W.heap.size + 1]? = some (.cells #[.int .u8 k', .int .i64 n', .string s', .slice a' us'.length cap'] 46 (0, 0)) ∧
        ((W1.alloc (.cells #[.int .i64 C1, .int .i64 X, .int .i64 C3, .int .i64 C4] 3)).drew).heap[W1.heap.size]? = some (.cells #[.int .i64 C1, .int .i64 X, .int .i64 C3, .int .i64 C4] 3 (0, 0)) ∧ Below W.heap.size W ((W1.alloc (.cells #[.int .i64 C1, .int .i64 X, .int .i64 C3, .int .i64 C4] 3)).drew) ∧
        ((W1.alloc (.cells #[.int .i64 C1, .int .i64 X, .int .i64 C3, .int .i64 C4] 3)).drew).ownsRow (W.heap.size + 2) 3 1 (.slice (some ⟨W1.heap.size, 0, none⟩) 4 4) 4 [.int .i64 C1, .int .i64 X, .int .i64 C3, .int .i64 C4] := fun X =>
      ⟨(Below.heap_alloc _ _ _ (by rw [HZ1.out]; omega)).trans HX.out, (Below.heap_alloc _ _ _ (by rw [HZ1.out]; omega)).trans HY.out, World.alloc_heap_new W1 _, (hB1.alloc (by rw [HZ1.out]; omega) _).drew,
        (World.ownsRow_lit W1 #[.int .i64 C1, .int .i64 X, .int .i64 C3, .int .i64 C4] 4 (by rw [HZ1.out]; omega) (by unfold maxLen; omega) rfl).drew⟩
    clear x0 x1 x2 x3 y0 y1 y2 y3
    obtain ⟨hx2, hy2, hg2, _, hO2⟩ := hFX 0
    have x0 := cells_at hx2 0 _ rfl
    have x1 := cells_at hx2 1 _ rfl
    have x3 := cells_at hx2 3 _ rfl
    have y1 := cells_at hy2 1 _ rfl
    have y3 := cells_at hy2 3 _ rfl
    have g1 := cells_at hg2 1 _ rfl
    have gf := hO2.frozenAt 1
    have HFX := Lib.hid hFX
    clear hx2 hy2 hg2 hO2 HX HY hB1 hFX
    by_cases hk1 : k = 1
    · have hc2 := HC2.out
      rw [if_pos hk1] at hc2
      subst hk1 hc2
      clear HC2
      go_wp2_with (go_at_call 82; refine (HNN.out _).mono ?_; rintro e w2 ⟨rfl, rfl⟩)
      clear x0 x1 x3 y1 y3 g1 gf
      obtain ⟨hx3, hy3, _, hB3, hO3⟩ := HFX.out CN
      clear HFX
      revert hx3 hy3 hB3 hO3
      generalize (W1.alloc (.cells #[.int .i64 C1, .int .i64 CN, .int .i64 C3, .int .i64 C4] 3)).drew = W3
      intro hx3 hy3 hB3 hO3
      go_loopw [5, 6] (fun v i wr => ∃ j : Nat, j ≤ us.length ∧ j ≤ us'.length ∧ i = .int .i64 j ∧ wr.ownsRow (W.heap.size + 2) 3 1 v (4 + j) ([.int .i64 C1, .int .i64 CN, .int .i64 C3, .int .i64 C4] ++ ((zipC us us').take j).map (Value.int .i64)) ∧ Below W.heap.size W wr ∧
        wr.heap[W.heap.size]? = some (.cells #[.int .u8 1, .int .i64 n, .string s, .slice a us.length cap] 46 (0, 0)) ∧ wr.heap[W.heap.size + 1]? = some (.cells #[.int .u8 k', .int .i64 n', .string s', .slice a' us'.length cap'] 46 (0, 0)))
        (fun _ i _ => us.length - (intOf i).toNat)
      case atStart => exact ⟨0, by omega, by omega, by go_num, hO3, hB3, hx3, hy3⟩
      case round =>
        clear hO3 hB3 hx3 hy3
        obtain ⟨j, hj, hj', rfl, hO, hBr, hxr, hyr⟩ := hrel
        have x1 := cells_at hxr 1 _ rfl
        have x3 := cells_at hxr 3 _ rfl
        have y1 := cells_at hyr 1 _ rfl
        have y3 := cells_at hyr 3 _ rfl
        have HXR := Lib.hid hxr
        have HYR := Lib.hid hyr
        have HBR := Lib.hid hBr
        have HO := Lib.hid hO
        have hszr := hBr.size
        have hmin := zipC_length us us'
        clear hxr hyr hO
        unfold maxLen at hl hl'
        by_cases hlt : j < us.length
        · by_cases hlt' : j < us'.length
          · obtain ⟨b, off, rfl, hb, hI⟩ := HA.out (by intro e; rw [e] at hlt; simp at hlt)
            obtain ⟨b', off', rfl, hb', hI'⟩ := HA'.out (by intro e; rw [e] at hlt'; simp at hlt')
            obtain ⟨p0, p1, p2, p3, e0, e1, e2, e3, hc⟩ := hI.at j hlt
            obtain ⟨q0, q1, q2, q3, f0, f1, f2, f3, hd⟩ := hI'.at j hlt'
            have g0 := (hBr.cell (p := ⟨b, off + j * 4, none⟩) (by show b < _; omega)).trans e0
            have g1 := (hBr.cell (p := ⟨b, off + j * 4 + 1, none⟩) (by show b < _; omega)).trans e1
            have g2 := (hBr.cell (p := ⟨b, off + j * 4 + 2, none⟩) (by show b < _; omega)).trans e2
            have g3 := (hBr.cell (p := ⟨b, off + j * 4 + 3, none⟩) (by show b < _; omega)).trans e3
            have l0 := (hBr.cell (p := ⟨b', off' + j * 4, none⟩) (by show b' < _; omega)).trans f0
            have l1 := (hBr.cell (p := ⟨b', off' + j * 4 + 1, none⟩) (by show b' < _; omega)).trans f1
            have l2 := (hBr.cell (p := ⟨b', off' + j * 4 + 2, none⟩) (by show b' < _; omega)).trans f2
            have l3 := (hBr.cell (p := ⟨b', off' + j * 4 + 3, none⟩) (by show b' < _; omega)).trans f3
            have HS := Lib.hid (fun w7 (h7 : Below wr.heap.size wr w7) => IH.out us[j] (List.getElem_mem hlt) us'[j] p0 p1 p2 p3 q0 q1 q2 q3 w7 (hc.below ((hBr.trans (h7.mono hBr.size)).mono hB)) (hd.below ((hBr.trans (h7.mono hBr.size)).mono hB)) (Nat.le_trans hB (hBr.trans (h7.mono hBr.size)).size) (by have := Tm.count_mem (List.getElem_mem hlt); omega))
            have hlx : W.heap.size < wr.heap.size := (Array.getElem?_eq_some_iff.1 HXR.out).1
            have hly : W.heap.size + 1 < wr.heap.size := (Array.getElem?_eq_some_iff.1 HYR.out).1
            have hlb : b < wr.heap.size := by omega
            have hlb' : b' < wr.heap.size := by omega
            clear e0 e1 e2 e3 f0 f1 f2 f3 hc hd hBr hszr hmin
            have i1 : (0 : Int) ≤ (j : Int) := by omega
            have i2 : (j : Int) < (us.length : Int) := by omega
            have i3 : (j : Int) < (us'.length : Int) := by omega
            go_wp2_with fail
            refine wp_region_grow_tail (by kernel_rfl) 13 (FQ [ .val (u5), .val (.pointer (some ⟨W.heap.size, 3, none⟩)), .val (.slice (some ⟨b, off, none⟩) us.length cap), .val (.int .i64 j), .val (.pointer (some ⟨b, off + j * 4, none⟩)), .val (.agg #[p0, p1, p2, p3]), .val (.pointer (some ⟨W.heap.size + 1, 3, none⟩)), .val (.slice (some ⟨b', off', none⟩) us'.length cap'), .val (.int .i64 j), .val (.pointer (some ⟨b', off' + j * 4, none⟩)), .val (.agg #[q0, q1, q2, q3]), .val (.int .i64 (Tm.cmp us[j] us'[j])), .row (3) (#[.int .i64 (Tm.cmp us[j] us'[j])]) 1]) (FQ_grow _) (by kernel_rfl) (by kernel_rfl) (steps_to ?_) ?_
            · simp only [List.take_succ_cons, List.take_zero]
              refine ⟨?_, ?_, ?_, ?_, ?_, ?_, ?_, ?_, ?_, ?_, ?_, ?_, ?_, trivial⟩
              · intro a wx hb hd hs ho hp
                refine ⟨rfl, ?_⟩
                have h5 : a.tmps.getD 5 undef = _ := (ho 5 (by kernel_rfl)).trans rfl
                unfold Oper.wp
                go_simp
                exact Stepped.at rfl hd (Below.refl _ _) (FQ_mk (.val (u5)) rfl (by first | rfl | simp))
              · intro a wx hb hd hs ho hp
                refine ⟨rfl, ?_⟩
                have h2 : a.tmps.getD 2 undef = _ := (ho 2 (by kernel_rfl)).trans rfl
                unfold Oper.wp
                go_simp
                exact Stepped.at rfl hd (Below.refl _ _) (FQ_mk (.val (.pointer (some ⟨W.heap.size, 3, none⟩))) rfl (by first | rfl | simp))
              · intro a wx hb hd hs ho hp
                refine ⟨rfl, ?_⟩
                have h53 : a.tmps.getD 53 undef = .pointer (some ⟨W.heap.size, 3, none⟩) := qval_at hp 1 53 (by kernel_rfl) rfl
                have x0 := (hb.cell (p := ⟨W.heap.size, 3, none⟩) hlx).trans x3
                unfold Oper.wp
                go_simp
                exact Stepped.at rfl hd (Below.refl _ _) (FQ_mk (.val (.slice (some ⟨b, off, none⟩) us.length cap)) rfl rfl)
              · intro a wx hb hd hs ho hp
                refine ⟨rfl, ?_⟩
                have h6 : a.tmps.getD 6 undef = _ := (ho 6 (by kernel_rfl)).trans rfl
                unfold Oper.wp
                go_simp
                exact Stepped.at rfl hd (Below.refl _ _) (FQ_mk (.val (.int .i64 j)) rfl (by first | rfl | simp))
              · intro a wx hb hd hs ho hp
                refine ⟨rfl, ?_⟩
                have h54 : a.tmps.getD 54 undef = .slice (some ⟨b, off, none⟩) us.length cap := qval_at hp 2 54 (by kernel_rfl) rfl
                have h55 : a.tmps.getD 55 undef = .int .i64 j := qval_at hp 3 55 (by kernel_rfl) rfl
                unfold Oper.wp
                go_simp
                exact Stepped.at rfl hd (Below.refl _ _) (FQ_mk (.val (.pointer (some ⟨b, off + j * 4, none⟩))) rfl (by first | rfl | simp))
              · intro a wx hb hd hs ho hp
                refine ⟨rfl, ?_⟩
                have h56 : a.tmps.getD 56 undef = .pointer (some ⟨b, off + j * 4, none⟩) := qval_at hp 4 56 (by kernel_rfl) rfl
                have x0 := (hb.cell (p := ⟨b, off + j * 4, none⟩) hlb).trans g0
                have x1 := (hb.cell (p := ⟨b, off + j * 4 + 1, none⟩) hlb).trans g1
                have x2 := (hb.cell (p := ⟨b, off + j * 4 + 2, none⟩) hlb).trans g2
                have x3 := (hb.cell (p := ⟨b, off + j * 4 + 3, none⟩) hlb).trans g3
                unfold Oper.wp
                go_simp
                exact Stepped.at rfl hd (Below.refl _ _) (FQ_mk (.val (.agg #[p0, p1, p2, p3])) rfl rfl)
              · intro a wx hb hd hs ho hp
                refine ⟨rfl, ?_⟩
                have h3 : a.tmps.getD 3 undef = _ := (ho 3 (by kernel_rfl)).trans rfl
                unfold Oper.wp
                go_simp
                exact Stepped.at rfl hd (Below.refl _ _) (FQ_mk (.val (.pointer (some ⟨W.heap.size + 1, 3, none⟩))) rfl (by first | rfl | simp))
              · intro a wx hb hd hs ho hp
                refine ⟨rfl, ?_⟩
                have h58 : a.tmps.getD 58 undef = .pointer (some ⟨W.heap.size + 1, 3, none⟩) := qval_at hp 6 58 (by kernel_rfl) rfl
                have x0 := (hb.cell (p := ⟨W.heap.size + 1, 3, none⟩) hly).trans y3
                unfold Oper.wp
                go_simp
                exact Stepped.at rfl hd (Below.refl _ _) (FQ_mk (.val (.slice (some ⟨b', off', none⟩) us'.length cap')) rfl rfl)
              · intro a wx hb hd hs ho hp
                refine ⟨rfl, ?_⟩
                have h6 : a.tmps.getD 6 undef = _ := (ho 6 (by kernel_rfl)).trans rfl
                unfold Oper.wp
                go_simp
                exact Stepped.at rfl hd (Below.refl _ _) (FQ_mk (.val (.int .i64 j)) rfl (by first | rfl | simp))
              · intro a wx hb hd hs ho hp
                refine ⟨rfl, ?_⟩
                have h59 : a.tmps.getD 59 undef = .slice (some ⟨b', off', none⟩) us'.length cap' := qval_at hp 7 59 (by kernel_rfl) rfl
                have h60 : a.tmps.getD 60 undef = .int .i64 j := qval_at hp 8 60 (by kernel_rfl) rfl
                unfold Oper.wp
                go_simp
                exact Stepped.at rfl hd (Below.refl _ _) (FQ_mk (.val (.pointer (some ⟨b', off' + j * 4, none⟩))) rfl (by first | rfl | simp))
              · intro a wx hb hd hs ho hp
                refine ⟨rfl, ?_⟩
                have h61 : a.tmps.getD 61 undef = .pointer (some ⟨b', off' + j * 4, none⟩) := qval_at hp 9 61 (by kernel_rfl) rfl
                have x0 := (hb.cell (p := ⟨b', off' + j * 4, none⟩) hlb').trans l0
                have x1 := (hb.cell (p := ⟨b', off' + j * 4 + 1, none⟩) hlb').trans l1
                have x2 := (hb.cell (p := ⟨b', off' + j * 4 + 2, none⟩) hlb').trans l2
                have x3 := (hb.cell (p := ⟨b', off' + j * 4 + 3, none⟩) hlb').trans l3
                unfold Oper.wp
                go_simp
                exact Stepped.at rfl hd (Below.refl _ _) (FQ_mk (.val (.agg #[q0, q1, q2, q3])) rfl rfl)
              · intro a wx hb hd hs ho hp
                refine ⟨rfl, ?_⟩
                have h57 : a.tmps.getD 57 undef = .agg #[p0, p1, p2, p3] := qval_at hp 5 57 (by kernel_rfl) rfl
                have h62 : a.tmps.getD 62 undef = .agg #[q0, q1, q2, q3] := qval_at hp 10 62 (by kernel_rfl) rfl
                unfold Oper.wp
                go_simp
                refine ((HS.out wx hb)).mono ?_
                rintro e w2 ⟨rfl, hb2⟩
                exact Stepped.at rfl hd hb2 (FQ_mk (.val (.int .i64 (Tm.cmp us[j] us'[j]))) rfl rfl)
              · intro a wx hb hd hs ho hp
                refine ⟨rfl, ?_⟩
                have h63 : a.tmps.getD 63 undef = .int .i64 (Tm.cmp us[j] us'[j]) := qval_at hp 11 63 (by kernel_rfl) rfl
                have s63 := qslot_of (hs.trans (show _ = 89 from rfl)) (by decide) h63
                unfold Oper.wp
                go_simp
                exact Stepped.at rfl hd ((Below.refl _ _).alloc (Nat.le_refl _) _) (FQ_mk (.row (3) (#[.int .i64 (Tm.cmp us[j] us'[j])]) 1) rfl ⟨_, rfl, World.alloc_heap_new _ _⟩)
            intro a7 w7 hb7 hd7 hs7 ho7 hf7
            have k52 : a7.tmps.getD 52 undef = u5 := FQ_at (.val (u5)) rfl (facts_to hf7 0 52 (by decide) (by kernel_rfl))
            have k53 : a7.tmps.getD 53 undef = .pointer (some ⟨W.heap.size, 3, none⟩) := FQ_at (.val (.pointer (some ⟨W.heap.size, 3, none⟩))) rfl (facts_to hf7 1 53 (by decide) (by kernel_rfl))
            have k54 : a7.tmps.getD 54 undef = .slice (some ⟨b, off, none⟩) us.length cap := FQ_at (.val (.slice (some ⟨b, off, none⟩) us.length cap)) rfl (facts_to hf7 2 54 (by decide) (by kernel_rfl))
            have k55 : a7.tmps.getD 55 undef = .int .i64 j := FQ_at (.val (.int .i64 j)) rfl (facts_to hf7 3 55 (by decide) (by kernel_rfl))
            have k56 : a7.tmps.getD 56 undef = .pointer (some ⟨b, off + j * 4, none⟩) := FQ_at (.val (.pointer (some ⟨b, off + j * 4, none⟩))) rfl (facts_to hf7 4 56 (by decide) (by kernel_rfl))
            have k57 : a7.tmps.getD 57 undef = .agg #[p0, p1, p2, p3] := FQ_at (.val (.agg #[p0, p1, p2, p3])) rfl (facts_to hf7 5 57 (by decide) (by kernel_rfl))
            have k58 : a7.tmps.getD 58 undef = .pointer (some ⟨W.heap.size + 1, 3, none⟩) := FQ_at (.val (.pointer (some ⟨W.heap.size + 1, 3, none⟩))) rfl (facts_to hf7 6 58 (by decide) (by kernel_rfl))
            have k59 : a7.tmps.getD 59 undef = .slice (some ⟨b', off', none⟩) us'.length cap' := FQ_at (.val (.slice (some ⟨b', off', none⟩) us'.length cap')) rfl (facts_to hf7 7 59 (by decide) (by kernel_rfl))
            have k60 : a7.tmps.getD 60 undef = .int .i64 j := FQ_at (.val (.int .i64 j)) rfl (facts_to hf7 8 60 (by decide) (by kernel_rfl))
            have k61 : a7.tmps.getD 61 undef = .pointer (some ⟨b', off' + j * 4, none⟩) := FQ_at (.val (.pointer (some ⟨b', off' + j * 4, none⟩))) rfl (facts_to hf7 9 61 (by decide) (by kernel_rfl))
            have k62 : a7.tmps.getD 62 undef = .agg #[q0, q1, q2, q3] := FQ_at (.val (.agg #[q0, q1, q2, q3])) rfl (facts_to hf7 10 62 (by decide) (by kernel_rfl))
            have k63 : a7.tmps.getD 63 undef = .int .i64 (Tm.cmp us[j] us'[j]) := FQ_at (.val (.int .i64 (Tm.cmp us[j] us'[j]))) rfl (facts_to hf7 11 63 (by decide) (by kernel_rfl))
            obtain ⟨g7, k64, hg7⟩ : Dq.holds (a7.tmps.getD 64 undef) w7 (.row 3 #[.int .i64 (Tm.cmp us[j] us'[j])] 1) := FQ_at (.row 3 #[.int .i64 (Tm.cmp us[j] us'[j])] 1) rfl (facts_to hf7 12 64 (by decide) (by kernel_rfl))
            have hO4 := own_grow HO.out hb7
            have hx4 := (hb7.block W.heap.size hlx).trans HXR.out
            have hy4 := (hb7.block (W.heap.size + 1) hly).trans HYR.out
            have hB4 := HBR.out.trans (hb7.mono HBR.out.size)
            have hE := slots_all a7.tmps 89 (hs7.trans rfl)
            simp only [List.range, List.range.loop, List.map, k52, k53, k54, k55, k56, k57, k58, k59, k60, k61, k62, k63, k64, ho7 0 (by kernel_rfl), ho7 1 (by kernel_rfl), ho7 2 (by kernel_rfl), ho7 3 (by kernel_rfl), ho7 4 (by kernel_rfl), ho7 5 (by kernel_rfl), ho7 6 (by kernel_rfl), ho7 7 (by kernel_rfl), ho7 8 (by kernel_rfl), ho7 9 (by kernel_rfl), ho7 10 (by kernel_rfl), ho7 11 (by kernel_rfl), ho7 12 (by kernel_rfl), ho7 13 (by kernel_rfl), ho7 14 (by kernel_rfl), ho7 15 (by kernel_rfl), ho7 16 (by kernel_rfl), ho7 17 (by kernel_rfl), ho7 18 (by kernel_rfl), ho7 19 (by kernel_rfl), ho7 20 (by kernel_rfl), ho7 21 (by kernel_rfl), ho7 22 (by kernel_rfl), ho7 23 (by kernel_rfl), ho7 24 (by kernel_rfl), ho7 25 (by kernel_rfl), ho7 26 (by kernel_rfl), ho7 27 (by kernel_rfl), ho7 28 (by kernel_rfl), ho7 29 (by kernel_rfl), ho7 30 (by kernel_rfl), ho7 31 (by kernel_rfl), ho7 32 (by kernel_rfl), ho7 33 (by kernel_rfl), ho7 34 (by kernel_rfl), ho7 35 (by kernel_rfl), ho7 36 (by kernel_rfl), ho7 37 (by kernel_rfl), ho7 38 (by kernel_rfl), ho7 39 (by kernel_rfl), ho7 40 (by kernel_rfl), ho7 41 (by kernel_rfl), ho7 42 (by kernel_rfl), ho7 43 (by kernel_rfl), ho7 44 (by kernel_rfl), ho7 45 (by kernel_rfl), ho7 46 (by kernel_rfl), ho7 47 (by kernel_rfl), ho7 48 (by kernel_rfl), ho7 49 (by kernel_rfl), ho7 50 (by kernel_rfl), ho7 51 (by kernel_rfl), ho7 65 (by kernel_rfl), ho7 66 (by kernel_rfl), ho7 67 (by kernel_rfl), ho7 68 (by kernel_rfl), ho7 69 (by kernel_rfl), ho7 70 (by kernel_rfl), ho7 71 (by kernel_rfl), ho7 72 (by kernel_rfl), ho7 73 (by kernel_rfl), ho7 74 (by kernel_rfl), ho7 75 (by kernel_rfl), ho7 76 (by kernel_rfl), ho7 77 (by kernel_rfl), ho7 78 (by kernel_rfl), ho7 79 (by kernel_rfl), ho7 80 (by kernel_rfl), ho7 81 (by kernel_rfl), ho7 82 (by kernel_rfl), ho7 83 (by kernel_rfl), ho7 84 (by kernel_rfl), ho7 85 (by kernel_rfl), ho7 86 (by kernel_rfl), ho7 87 (by kernel_rfl), ho7 88 (by kernel_rfl)] at hE
            obtain ⟨T7, D7⟩ := a7
            simp only at hE hd7
            subst hd7 hE
            clear k52 k53 k54 k55 k56 k57 k58 k59 k60 k61 k62 k63 k64 hf7 hs7 ho7 x1 x3 y1 y3 g0 g1 g2 g3 l0 l1 l2 l3 HS
            have HO4 := Lib.hid hO4
            have HX4 := Lib.hid hx4
            have HY4 := Lib.hid hy4
            have HB4 := Lib.hid hB4
            have HG7 := Lib.hid hg7
            clear hO4 hx4 hy4 hB4 hb7 hg7
            simp only [List.drop_succ_cons, List.drop_zero]
            refine wpList_append_own _ rfl _ _ 85 rfl (W.heap.size + 2) 3 i0 (.int .i64 0) 1 8 Tryz.underlying85 HI.out.1 HI.out.2.1 HI.out.2.2.1 HI.out.2.2.2 rfl (by decide) _ _ _ rfl HO4.out ⟨g7, 0, none⟩ 1 1 [.int .i64 (Tm.cmp us[j] us'[j])] rfl rfl ?c1 ?c2 ?c3 ?c4 ?c5 ?_
            case c1 =>
              intro i u hj
              match i, hj with
              | 0, hj => simp at hj; subst hj; exact cells_at HG7.out 0 _ rfl
            case c2 => intro u hu; simp at hu; subst hu; rfl
            case c3 => unfold maxLen; omega
            case c4 => omega
            case c5 => have h1 := (Array.getElem?_eq_some_iff.1 HY4.out).1; omega
            intro v6 w6 hO6 hg6 _
            have hob := HO.out.lt
            have hx6 := (hg6.block W.heap.size (Array.getElem?_eq_some_iff.1 HX4.out).1 (fun e => by have := (hob _ e.symm).1; omega)).trans HX4.out
            have hy6 := (hg6.block (W.heap.size + 1) (Array.getElem?_eq_some_iff.1 HY4.out).1 (fun e => by have := (hob _ e.symm).1; omega)).trans HY4.out
            have hB6 : Below W.heap.size W w6 := HB4.out.grown hg6 HB4.out.size (fun k e => by have := (hob k e).1; omega)
            have hl6 : [Value.int .i64 C1, .int .i64 CN, .int .i64 C3, .int .i64 C4] ++ ((zipC us us').take (j + 1)).map (Value.int .i64) = [Value.int .i64 C1, .int .i64 CN, .int .i64 C3, .int .i64 C4] ++ ((zipC us us').take j).map (Value.int .i64) ++ [Value.int .i64 (Tm.cmp us[j] us'[j])] := by
              rw [List.take_add_one, zipC_at us us' j hlt hlt']
              simp
            rw [← hl6] at hO6
            have HX6 := Lib.hid hx6
            have HY6 := Lib.hid hy6
            have HB6 := Lib.hid hB6
            have HO6 := Lib.hid hO6
            clear hx6 hy6 hB6 hO6 hg6 hob hl6
            go_wp2_with fail
            go_roundw
            case rel => exact ⟨j + 1, by omega, by omega, by go_num, HO6.out, HB6.out, HX6.out, HY6.out⟩
            case measure => simp [intOf]; omega
          · have hkj : (zipC us us').take j = zipC us us' := List.take_of_length_le (by omega)
            have hOO := HO.out
            rw [hkj] at hOO
            have HOO := Lib.hid (hOO.alloc (.cells #[.int .i64 CN] 3))
            have hjl := congrArg List.length hkj
            rw [List.length_take] at hjl
            clear hOO hkj HO
            go_wp2_with (first
              | (go_at_call 82; refine (HNN.out _).mono ?_; rintro e w2 ⟨rfl, rfl⟩)
              | (at_builtin; go_loud (refine wpList_append_own _ rfl _ _ 85 rfl (W.heap.size + 2) 3 i0 (.int .i64 0) 1 8 Tryz.underlying85 HI.out.1 HI.out.2.1 HI.out.2.2.1 HI.out.2.2.2 rfl (by decide) _ _ _ rfl HOO.out ⟨_, 0, none⟩ 1 1 [.int .i64 CN] rfl rfl ?c1 ?c2 ?c3 ?c4 ?c5 ?_)))
            case c1 =>
              intro i u hj
              match i, hj with
              | 0, hj => simp at hj; subst hj; simp [Addr.add]
            case c2 => intro u hu; simp at hu; subst hu; rfl
            case c3 => unfold maxLen; omega
            case c4 => omega
            case c5 => have h1 := (Array.getElem?_eq_some_iff.1 HYR.out).1; rw [World.size_alloc]; omega
            intro v6 w6 hO6 hg6 _
            have hob := HOO.out.lt
            have hB6 := (HBR.out.alloc HBR.out.size _).grown hg6 (by rw [World.size_alloc]; have := HBR.out.size; omega) (fun k e => by have := (hob k e).1; omega)
            obtain ⟨L, hL⟩ : ∃ L, C1 :: CN :: C3 :: C4 :: (zipC us us' ++ [CN]) = L := ⟨_, rfl⟩
            have hLl : L.length = 4 + j + 1 := by rw [← hL]; simp; omega
            obtain ⟨g6, cap6, rfl, hc6⟩ : ∃ g cap, v6 = .slice (some ⟨g, 0, none⟩) (4 + j + 1) cap ∧ ∀ i (h : i < L.length), w6.cell? ⟨g, i, none⟩ = some (.int .i64 L[i]) := by
              have h6 := hO6
              rcases hO6.2 with ⟨_, h0⟩ | ⟨g, cap, cur, rfl, _⟩
              · omega
              · refine ⟨g, cap, rfl, fun i h => ?_⟩
                rw [h6.cellAt i (by omega)]
                subst hL
                have e : ∀ X : List Value, X = (C1 :: CN :: C3 :: C4 :: (zipC us us' ++ [CN])).map (Value.int .i64) → X[i]? = some (.int .i64 ((C1 :: CN :: C3 :: C4 :: (zipC us us' ++ [CN]))[i])) := by
                  rintro X rfl
                  rw [List.getElem?_map, List.getElem?_eq_getElem h]
                  rfl
                exact e _ (by simp)
            have HC6 := Lib.hid hc6
            have HB6 := Lib.hid hB6
            have HL := Lib.hid hL
            have HLL := Lib.hid hLl
            clear hO6 hg6 hob hB6 hL hLl hc6 hjl HOO
            generalize hN : 4 + j + 1 = N at HLL ⊢
            have hNb : N ≤ 1000010 := by omega
            clear hN
            go_wp2_with fail
            go_loop [7] (fun i => ∃ q : Nat, q ≤ N ∧ i = .int .i64 q ∧ firstI (L.drop q) = firstI L) (fun i => N - (intOf i).toNat)
            case atStart => exact ⟨0, by omega, by go_num, rfl⟩
            case round =>
              obtain ⟨q, hq, rfl, hqf⟩ := hrel
              have i1 : (0 : Int) ≤ (q : Int) := by omega
              by_cases hqn : q < N
              · have hqL : q < L.length := by rw [HLL.out]; exact hqn
                have hcell := HC6.out q hqL
                rw [List.drop_eq_getElem_cons hqL, firstI_cons] at hqf
                obtain ⟨X, hX⟩ : ∃ X, L[q] = X := ⟨_, rfl⟩
                rw [hX] at hcell hqf
                have i2 : (q : Int) < (N : Int) := by omega
                clear hX hqL
                by_cases hX0 : X = 0
                · subst hX0
                  have HQ := Lib.hid hqf
                  clear hqf
                  go_wp2_with fail
                  go_round
                  case rel => exact ⟨q + 1, by omega, by go_num, by rw [← HQ.out]; rfl⟩
                  case measure => simp [intOf]; omega
                · have hr : firstI L = X := by rw [← hqf]; exact orI_l hX0
                  have HR := Lib.hid hr
                  have e1 : (X != 0) = true := by simpa using hX0
                  clear hqf hr hX0
                  go_wp2_with fail
                  go_ret
                  exact ⟨by rw [HL.out, HR.out]; rfl, HB6.out⟩
              · rw [List.drop_eq_nil_of_le (by rw [HLL.out]; omega)] at hqf
                have hr : firstI L = 0 := hqf.symm
                have HR := Lib.hid hr
                clear hqf hr
                go_wp2_with fail
                go_ret
                exact ⟨by rw [HL.out, HR.out]; rfl, HB6.out⟩
        · have hkj : (zipC us us').take j = zipC us us' := List.take_of_length_le (by omega)
          have hOO := HO.out
          rw [hkj] at hOO
          have HOO := Lib.hid (hOO.alloc (.cells #[.int .i64 CN] 3))
          have hjl := congrArg List.length hkj
          rw [List.length_take] at hjl
          clear hOO hkj HO
          go_wp2_with (first
            | (go_at_call 82; refine (HNN.out _).mono ?_; rintro e w2 ⟨rfl, rfl⟩)
            | (at_builtin; go_loud (refine wpList_append_own _ rfl _ _ 85 rfl (W.heap.size + 2) 3 i0 (.int .i64 0) 1 8 Tryz.underlying85 HI.out.1 HI.out.2.1 HI.out.2.2.1 HI.out.2.2.2 rfl (by decide) _ _ _ rfl HOO.out ⟨_, 0, none⟩ 1 1 [.int .i64 CN] rfl rfl ?c1 ?c2 ?c3 ?c4 ?c5 ?_)))
          case c1 =>
            intro i u hj
            match i, hj with
            | 0, hj => simp at hj; subst hj; simp [Addr.add]
          case c2 => intro u hu; simp at hu; subst hu; rfl
          case c3 => unfold maxLen; omega
          case c4 => omega
          case c5 => have h1 := (Array.getElem?_eq_some_iff.1 HYR.out).1; rw [World.size_alloc]; omega
          intro v6 w6 hO6 hg6 _
          have hob := HOO.out.lt
          have hB6 := (HBR.out.alloc HBR.out.size _).grown hg6 (by rw [World.size_alloc]; have := HBR.out.size; omega) (fun k e => by have := (hob k e).1; omega)
          obtain ⟨L, hL⟩ : ∃ L, C1 :: CN :: C3 :: C4 :: (zipC us us' ++ [CN]) = L := ⟨_, rfl⟩
          have hLl : L.length = 4 + j + 1 := by rw [← hL]; simp; omega
          obtain ⟨g6, cap6, rfl, hc6⟩ : ∃ g cap, v6 = .slice (some ⟨g, 0, none⟩) (4 + j + 1) cap ∧ ∀ i (h : i < L.length), w6.cell? ⟨g, i, none⟩ = some (.int .i64 L[i]) := by
            have h6 := hO6
            rcases hO6.2 with ⟨_, h0⟩ | ⟨g, cap, cur, rfl, _⟩
            · omega
            · refine ⟨g, cap, rfl, fun i h => ?_⟩
              rw [h6.cellAt i (by omega)]
              subst hL
              have e : ∀ X : List Value, X = (C1 :: CN :: C3 :: C4 :: (zipC us us' ++ [CN])).map (Value.int .i64) → X[i]? = some (.int .i64 ((C1 :: CN :: C3 :: C4 :: (zipC us us' ++ [CN]))[i])) := by
                rintro X rfl
                rw [List.getElem?_map, List.getElem?_eq_getElem h]
                rfl
              exact e _ (by simp)
          have HC6 := Lib.hid hc6
          have HB6 := Lib.hid hB6
          have HL := Lib.hid hL
          have HLL := Lib.hid hLl
          clear hO6 hg6 hob hB6 hL hLl hc6 hjl HOO
          generalize hN : 4 + j + 1 = N at HLL ⊢
          have hNb : N ≤ 1000010 := by omega
          clear hN
          go_wp2_with fail
          go_loop [7] (fun i => ∃ q : Nat, q ≤ N ∧ i = .int .i64 q ∧ firstI (L.drop q) = firstI L) (fun i => N - (intOf i).toNat)
          case atStart => exact ⟨0, by omega, by go_num, rfl⟩
          case round =>
            obtain ⟨q, hq, rfl, hqf⟩ := hrel
            have i1 : (0 : Int) ≤ (q : Int) := by omega
            by_cases hqn : q < N
            · have hqL : q < L.length := by rw [HLL.out]; exact hqn
              have hcell := HC6.out q hqL
              rw [List.drop_eq_getElem_cons hqL, firstI_cons] at hqf
              obtain ⟨X, hX⟩ : ∃ X, L[q] = X := ⟨_, rfl⟩
              rw [hX] at hcell hqf
              have i2 : (q : Int) < (N : Int) := by omega
              clear hX hqL
              by_cases hX0 : X = 0
              · subst hX0
                have HQ := Lib.hid hqf
                clear hqf
                go_wp2_with fail
                go_round
                case rel => exact ⟨q + 1, by omega, by go_num, by rw [← HQ.out]; rfl⟩
                case measure => simp [intOf]; omega
              · have hr : firstI L = X := by rw [← hqf]; exact orI_l hX0
                have HR := Lib.hid hr
                have e1 : (X != 0) = true := by simpa using hX0
                clear hqf hr hX0
                go_wp2_with fail
                go_ret
                exact ⟨by rw [HL.out, HR.out]; rfl, HB6.out⟩
            · rw [List.drop_eq_nil_of_le (by rw [HLL.out]; omega)] at hqf
              have hr : firstI L = 0 := hqf.symm
              have HR := Lib.hid hr
              clear hqf hr
              go_wp2_with fail
              go_ret
              exact ⟨by rw [HL.out, HR.out]; rfl, HB6.out⟩
    · have hc2 := HC2.out
      rw [if_neg hk1] at hc2
      subst hc2
      clear HC2
      have e1 : (k == 1) = false := by simpa using hk1
      clear hk1
      go_wp2_with fail
      clear x0 x1 x3 y1 y3 g1 gf e1
      obtain ⟨hx3, hy3, _, hB3, hO3⟩ := HFX.out 0
      clear HFX
      revert hx3 hy3 hB3 hO3
      generalize (W1.alloc (.cells #[.int .i64 C1, .int .i64 0, .int .i64 C3, .int .i64 C4] 3)).drew = W3
      intro hx3 hy3 hB3 hO3
      go_loopw [5, 6] (fun v i wr => ∃ j : Nat, j ≤ us.length ∧ j ≤ us'.length ∧ i = .int .i64 j ∧ wr.ownsRow (W.heap.size + 2) 3 1 v (4 + j) ([.int .i64 C1, .int .i64 0, .int .i64 C3, .int .i64 C4] ++ ((zipC us us').take j).map (Value.int .i64)) ∧ Below W.heap.size W wr ∧
        wr.heap[W.heap.size]? = some (.cells #[.int .u8 k, .int .i64 n, .string s, .slice a us.length cap] 46 (0, 0)) ∧ wr.heap[W.heap.size + 1]? = some (.cells #[.int .u8 k', .int .i64 n', .string s', .slice a' us'.length cap'] 46 (0, 0)))
        (fun _ i _ => us.length - (intOf i).toNat)
      case atStart => exact ⟨0, by omega, by omega, by go_num, hO3, hB3, hx3, hy3⟩
      case round =>
        clear hO3 hB3 hx3 hy3
        obtain ⟨j, hj, hj', rfl, hO, hBr, hxr, hyr⟩ := hrel
        have x1 := cells_at hxr 1 _ rfl
        have x3 := cells_at hxr 3 _ rfl
        have y1 := cells_at hyr 1 _ rfl
        have y3 := cells_at hyr 3 _ rfl
        have HXR := Lib.hid hxr
        have HYR := Lib.hid hyr
        have HBR := Lib.hid hBr
        have HO := Lib.hid hO
        have hszr := hBr.size
        have hmin := zipC_length us us'
        clear hxr hyr hO
        unfold maxLen at hl hl'
        by_cases hlt : j < us.length
        · by_cases hlt' : j < us'.length
          · obtain ⟨b, off, rfl, hb, hI⟩ := HA.out (by intro e; rw [e] at hlt; simp at hlt)
            obtain ⟨b', off', rfl, hb', hI'⟩ := HA'.out (by intro e; rw [e] at hlt'; simp at hlt')
            obtain ⟨p0, p1, p2, p3, e0, e1, e2, e3, hc⟩ := hI.at j hlt
            obtain ⟨q0, q1, q2, q3, f0, f1, f2, f3, hd⟩ := hI'.at j hlt'
            have g0 := (hBr.cell (p := ⟨b, off + j * 4, none⟩) (by show b < _; omega)).trans e0
            have g1 := (hBr.cell (p := ⟨b, off + j * 4 + 1, none⟩) (by show b < _; omega)).trans e1
            have g2 := (hBr.cell (p := ⟨b, off + j * 4 + 2, none⟩) (by show b < _; omega)).trans e2
            have g3 := (hBr.cell (p := ⟨b, off + j * 4 + 3, none⟩) (by show b < _; omega)).trans e3
            have l0 := (hBr.cell (p := ⟨b', off' + j * 4, none⟩) (by show b' < _; omega)).trans f0
            have l1 := (hBr.cell (p := ⟨b', off' + j * 4 + 1, none⟩) (by show b' < _; omega)).trans f1
            have l2 := (hBr.cell (p := ⟨b', off' + j * 4 + 2, none⟩) (by show b' < _; omega)).trans f2
            have l3 := (hBr.cell (p := ⟨b', off' + j * 4 + 3, none⟩) (by show b' < _; omega)).trans f3
            have HS := Lib.hid (fun w7 (h7 : Below wr.heap.size wr w7) => IH.out us[j] (List.getElem_mem hlt) us'[j] p0 p1 p2 p3 q0 q1 q2 q3 w7 (hc.below ((hBr.trans (h7.mono hBr.size)).mono hB)) (hd.below ((hBr.trans (h7.mono hBr.size)).mono hB)) (Nat.le_trans hB (hBr.trans (h7.mono hBr.size)).size) (by have := Tm.count_mem (List.getElem_mem hlt); omega))
            have hlx : W.heap.size < wr.heap.size := (Array.getElem?_eq_some_iff.1 HXR.out).1
            have hly : W.heap.size + 1 < wr.heap.size := (Array.getElem?_eq_some_iff.1 HYR.out).1
            have hlb : b < wr.heap.size := by omega
            have hlb' : b' < wr.heap.size := by omega
            clear e0 e1 e2 e3 f0 f1 f2 f3 hc hd hBr hszr hmin
            have i1 : (0 : Int) ≤ (j : Int) := by omega
            have i2 : (j : Int) < (us.length : Int) := by omega
            have i3 : (j : Int) < (us'.length : Int) := by omega
            go_wp2_with fail
            refine wp_region_grow_tail (by kernel_rfl) 13 (FQ [ .val (u5), .val (.pointer (some ⟨W.heap.size, 3, none⟩)), .val (.slice (some ⟨b, off, none⟩) us.length cap), .val (.int .i64 j), .val (.pointer (some ⟨b, off + j * 4, none⟩)), .val (.agg #[p0, p1, p2, p3]), .val (.pointer (some ⟨W.heap.size + 1, 3, none⟩)), .val (.slice (some ⟨b', off', none⟩) us'.length cap'), .val (.int .i64 j), .val (.pointer (some ⟨b', off' + j * 4, none⟩)), .val (.agg #[q0, q1, q2, q3]), .val (.int .i64 (Tm.cmp us[j] us'[j])), .row (3) (#[.int .i64 (Tm.cmp us[j] us'[j])]) 1]) (FQ_grow _) (by kernel_rfl) (by kernel_rfl) (steps_to ?_) ?_
            · simp only [List.take_succ_cons, List.take_zero]
              refine ⟨?_, ?_, ?_, ?_, ?_, ?_, ?_, ?_, ?_, ?_, ?_, ?_, ?_, trivial⟩
              · intro a wx hb hd hs ho hp
                refine ⟨rfl, ?_⟩
                have h5 : a.tmps.getD 5 undef = _ := (ho 5 (by kernel_rfl)).trans rfl
                unfold Oper.wp
                go_simp
                exact Stepped.at rfl hd (Below.refl _ _) (FQ_mk (.val (u5)) rfl (by first | rfl | simp))
              · intro a wx hb hd hs ho hp
                refine ⟨rfl, ?_⟩
                have h2 : a.tmps.getD 2 undef = _ := (ho 2 (by kernel_rfl)).trans rfl
                unfold Oper.wp
                go_simp
                exact Stepped.at rfl hd (Below.refl _ _) (FQ_mk (.val (.pointer (some ⟨W.heap.size, 3, none⟩))) rfl (by first | rfl | simp))
              · intro a wx hb hd hs ho hp
                refine ⟨rfl, ?_⟩
                have h53 : a.tmps.getD 53 undef = .pointer (some ⟨W.heap.size, 3, none⟩) := qval_at hp 1 53 (by kernel_rfl) rfl
                have x0 := (hb.cell (p := ⟨W.heap.size, 3, none⟩) hlx).trans x3
                unfold Oper.wp
                go_simp
                exact Stepped.at rfl hd (Below.refl _ _) (FQ_mk (.val (.slice (some ⟨b, off, none⟩) us.length cap)) rfl rfl)
              · intro a wx hb hd hs ho hp
                refine ⟨rfl, ?_⟩
                have h6 : a.tmps.getD 6 undef = _ := (ho 6 (by kernel_rfl)).trans rfl
                unfold Oper.wp
                go_simp
                exact Stepped.at rfl hd (Below.refl _ _) (FQ_mk (.val (.int .i64 j)) rfl (by first | rfl | simp))
              · intro a wx hb hd hs ho hp
                refine ⟨rfl, ?_⟩
                have h54 : a.tmps.getD 54 undef = .slice (some ⟨b, off, none⟩) us.length cap := qval_at hp 2 54 (by kernel_rfl) rfl
                have h55 : a.tmps.getD 55 undef = .int .i64 j := qval_at hp 3 55 (by kernel_rfl) rfl
                unfold Oper.wp
                go_simp
                exact Stepped.at rfl hd (Below.refl _ _) (FQ_mk (.val (.pointer (some ⟨b, off + j * 4, none⟩))) rfl (by first | rfl | simp))
              · intro a wx hb hd hs ho hp
                refine ⟨rfl, ?_⟩
                have h56 : a.tmps.getD 56 undef = .pointer (some ⟨b, off + j * 4, none⟩) := qval_at hp 4 56 (by kernel_rfl) rfl
                have x0 := (hb.cell (p := ⟨b, off + j * 4, none⟩) hlb).trans g0
                have x1 := (hb.cell (p := ⟨b, off + j * 4 + 1, none⟩) hlb).trans g1
                have x2 := (hb.cell (p := ⟨b, off + j * 4 + 2, none⟩) hlb).trans g2
                have x3 := (hb.cell (p := ⟨b, off + j * 4 + 3, none⟩) hlb).trans g3
                unfold Oper.wp
                go_simp
                exact Stepped.at rfl hd (Below.refl _ _) (FQ_mk (.val (.agg #[p0, p1, p2, p3])) rfl rfl)
              · intro a wx hb hd hs ho hp
                refine ⟨rfl, ?_⟩
                have h3 : a.tmps.getD 3 undef = _ := (ho 3 (by kernel_rfl)).trans rfl
                unfold Oper.wp
                go_simp
                exact Stepped.at rfl hd (Below.refl _ _) (FQ_mk (.val (.pointer (some ⟨W.heap.size + 1, 3, none⟩))) rfl (by first | rfl | simp))
              · intro a wx hb hd hs ho hp
                refine ⟨rfl, ?_⟩
                have h58 : a.tmps.getD 58 undef = .pointer (some ⟨W.heap.size + 1, 3, none⟩) := qval_at hp 6 58 (by kernel_rfl) rfl
                have x0 := (hb.cell (p := ⟨W.heap.size + 1, 3, none⟩) hly).trans y3
                unfold Oper.wp
                go_simp
                exact Stepped.at rfl hd (Below.refl _ _) (FQ_mk (.val (.slice (some ⟨b', off', none⟩) us'.length cap')) rfl rfl)
              · intro a wx hb hd hs ho hp
                refine ⟨rfl, ?_⟩
                have h6 : a.tmps.getD 6 undef = _ := (ho 6 (by kernel_rfl)).trans rfl
                unfold Oper.wp
                go_simp
                exact Stepped.at rfl hd (Below.refl _ _) (FQ_mk (.val (.int .i64 j)) rfl (by first | rfl | simp))
              · intro a wx hb hd hs ho hp
                refine ⟨rfl, ?_⟩
                have h59 : a.tmps.getD 59 undef = .slice (some ⟨b', off', none⟩) us'.length cap' := qval_at hp 7 59 (by kernel_rfl) rfl
                have h60 : a.tmps.getD 60 undef = .int .i64 j := qval_at hp 8 60 (by kernel_rfl) rfl
                unfold Oper.wp
                go_simp
                exact Stepped.at rfl hd (Below.refl _ _) (FQ_mk (.val (.pointer (some ⟨b', off' + j * 4, none⟩))) rfl (by first | rfl | simp))
              · intro a wx hb hd hs ho hp
                refine ⟨rfl, ?_⟩
                have h61 : a.tmps.getD 61 undef = .pointer (some ⟨b', off' + j * 4, none⟩) := qval_at hp 9 61 (by kernel_rfl) rfl
                have x0 := (hb.cell (p := ⟨b', off' + j * 4, none⟩) hlb').trans l0
                have x1 := (hb.cell (p := ⟨b', off' + j * 4 + 1, none⟩) hlb').trans l1
                have x2 := (hb.cell (p := ⟨b', off' + j * 4 + 2, none⟩) hlb').trans l2
                have x3 := (hb.cell (p := ⟨b', off' + j * 4 + 3, none⟩) hlb').trans l3
                unfold Oper.wp
                go_simp
                exact Stepped.at rfl hd (Below.refl _ _) (FQ_mk (.val (.agg #[q0, q1, q2, q3])) rfl rfl)
              · intro a wx hb hd hs ho hp
                refine ⟨rfl, ?_⟩
                have h57 : a.tmps.getD 57 undef = .agg #[p0, p1, p2, p3] := qval_at hp 5 57 (by kernel_rfl) rfl
                have h62 : a.tmps.getD 62 undef = .agg #[q0, q1, q2, q3] := qval_at hp 10 62 (by kernel_rfl) rfl
                unfold Oper.wp
                go_simp
                refine ((HS.out wx hb)).mono ?_
                rintro e w2 ⟨rfl, hb2⟩
                exact Stepped.at rfl hd hb2 (FQ_mk (.val (.int .i64 (Tm.cmp us[j] us'[j]))) rfl rfl)
              · intro a wx hb hd hs ho hp
                refine ⟨rfl, ?_⟩
                have h63 : a.tmps.getD 63 undef = .int .i64 (Tm.cmp us[j] us'[j]) := qval_at hp 11 63 (by kernel_rfl) rfl
                have s63 := qslot_of (hs.trans (show _ = 89 from rfl)) (by decide) h63
                unfold Oper.wp
                go_simp
                exact Stepped.at rfl hd ((Below.refl _ _).alloc (Nat.le_refl _) _) (FQ_mk (.row (3) (#[.int .i64 (Tm.cmp us[j] us'[j])]) 1) rfl ⟨_, rfl, World.alloc_heap_new _ _⟩)
            intro a7 w7 hb7 hd7 hs7 ho7 hf7
            have k52 : a7.tmps.getD 52 undef = u5 := FQ_at (.val (u5)) rfl (facts_to hf7 0 52 (by decide) (by kernel_rfl))
            have k53 : a7.tmps.getD 53 undef = .pointer (some ⟨W.heap.size, 3, none⟩) := FQ_at (.val (.pointer (some ⟨W.heap.size, 3, none⟩))) rfl (facts_to hf7 1 53 (by decide) (by kernel_rfl))
            have k54 : a7.tmps.getD 54 undef = .slice (some ⟨b, off, none⟩) us.length cap := FQ_at (.val (.slice (some ⟨b, off, none⟩) us.length cap)) rfl (facts_to hf7 2 54 (by decide) (by kernel_rfl))
            have k55 : a7.tmps.getD 55 undef = .int .i64 j := FQ_at (.val (.int .i64 j)) rfl (facts_to hf7 3 55 (by decide) (by kernel_rfl))
            have k56 : a7.tmps.getD 56 undef = .pointer (some ⟨b, off + j * 4, none⟩) := FQ_at (.val (.pointer (some ⟨b, off + j * 4, none⟩))) rfl (facts_to hf7 4 56 (by decide) (by kernel_rfl))
            have k57 : a7.tmps.getD 57 undef = .agg #[p0, p1, p2, p3] := FQ_at (.val (.agg #[p0, p1, p2, p3])) rfl (facts_to hf7 5 57 (by decide) (by kernel_rfl))
            have k58 : a7.tmps.getD 58 undef = .pointer (some ⟨W.heap.size + 1, 3, none⟩) := FQ_at (.val (.pointer (some ⟨W.heap.size + 1, 3, none⟩))) rfl (facts_to hf7 6 58 (by decide) (by kernel_rfl))
            have k59 : a7.tmps.getD 59 undef = .slice (some ⟨b', off', none⟩) us'.length cap' := FQ_at (.val (.slice (some ⟨b', off', none⟩) us'.length cap')) rfl (facts_to hf7 7 59 (by decide) (by kernel_rfl))
            have k60 : a7.tmps.getD 60 undef = .int .i64 j := FQ_at (.val (.int .i64 j)) rfl (facts_to hf7 8 60 (by decide) (by kernel_rfl))
            have k61 : a7.tmps.getD 61 undef = .pointer (some ⟨b', off' + j * 4, none⟩) := FQ_at (.val (.pointer (some ⟨b', off' + j * 4, none⟩))) rfl (facts_to hf7 9 61 (by decide) (by kernel_rfl))
            have k62 : a7.tmps.getD 62 undef = .agg #[q0, q1, q2, q3] := FQ_at (.val (.agg #[q0, q1, q2, q3])) rfl (facts_to hf7 10 62 (by decide) (by kernel_rfl))
            have k63 : a7.tmps.getD 63 undef = .int .i64 (Tm.cmp us[j] us'[j]) := FQ_at (.val (.int .i64 (Tm.cmp us[j] us'[j]))) rfl (facts_to hf7 11 63 (by decide) (by kernel_rfl))
            obtain ⟨g7, k64, hg7⟩ : Dq.holds (a7.tmps.getD 64 undef) w7 (.row 3 #[.int .i64 (Tm.cmp us[j] us'[j])] 1) := FQ_at (.row 3 #[.int .i64 (Tm.cmp us[j] us'[j])] 1) rfl (facts_to hf7 12 64 (by decide) (by kernel_rfl))
            have hO4 := own_grow HO.out hb7
            have hx4 := (hb7.block W.heap.size hlx).trans HXR.out
            have hy4 := (hb7.block (W.heap.size + 1) hly).trans HYR.out
            have hB4 := HBR.out.trans (hb7.mono HBR.out.size)
            have hE := slots_all a7.tmps 89 (hs7.trans rfl)
            simp only [List.range, List.range.loop, List.map, k52, k53, k54, k55, k56, k57, k58, k59, k60, k61, k62, k63, k64, ho7 0 (by kernel_rfl), ho7 1 (by kernel_rfl), ho7 2 (by kernel_rfl), ho7 3 (by kernel_rfl), ho7 4 (by kernel_rfl), ho7 5 (by kernel_rfl), ho7 6 (by kernel_rfl), ho7 7 (by kernel_rfl), ho7 8 (by kernel_rfl), ho7 9 (by kernel_rfl), ho7 10 (by kernel_rfl), ho7 11 (by kernel_rfl), ho7 12 (by kernel_rfl), ho7 13 (by kernel_rfl), ho7 14 (by kernel_rfl), ho7 15 (by kernel_rfl), ho7 16 (by kernel_rfl), ho7 17 (by kernel_rfl), ho7 18 (by kernel_rfl), ho7 19 (by kernel_rfl), ho7 20 (by kernel_rfl), ho7 21 (by kernel_rfl), ho7 22 (by kernel_rfl), ho7 23 (by kernel_rfl), ho7 24 (by kernel_rfl), ho7 25 (by kernel_rfl), ho7 26 (by kernel_rfl), ho7 27 (by kernel_rfl), ho7 28 (by kernel_rfl), ho7 29 (by kernel_rfl), ho7 30 (by kernel_rfl), ho7 31 (by kernel_rfl), ho7 32 (by kernel_rfl), ho7 33 (by kernel_rfl), ho7 34 (by kernel_rfl), ho7 35 (by kernel_rfl), ho7 36 (by kernel_rfl), ho7 37 (by kernel_rfl), ho7 38 (by kernel_rfl), ho7 39 (by kernel_rfl), ho7 40 (by kernel_rfl), ho7 41 (by kernel_rfl), ho7 42 (by kernel_rfl), ho7 43 (by kernel_rfl), ho7 44 (by kernel_rfl), ho7 45 (by kernel_rfl), ho7 46 (by kernel_rfl), ho7 47 (by kernel_rfl), ho7 48 (by kernel_rfl), ho7 49 (by kernel_rfl), ho7 50 (by kernel_rfl), ho7 51 (by kernel_rfl), ho7 65 (by kernel_rfl), ho7 66 (by kernel_rfl), ho7 67 (by kernel_rfl), ho7 68 (by kernel_rfl), ho7 69 (by kernel_rfl), ho7 70 (by kernel_rfl), ho7 71 (by kernel_rfl), ho7 72 (by kernel_rfl), ho7 73 (by kernel_rfl), ho7 74 (by kernel_rfl), ho7 75 (by kernel_rfl), ho7 76 (by kernel_rfl), ho7 77 (by kernel_rfl), ho7 78 (by kernel_rfl), ho7 79 (by kernel_rfl), ho7 80 (by kernel_rfl), ho7 81 (by kernel_rfl), ho7 82 (by kernel_rfl), ho7 83 (by kernel_rfl), ho7 84 (by kernel_rfl), ho7 85 (by kernel_rfl), ho7 86 (by kernel_rfl), ho7 87 (by kernel_rfl), ho7 88 (by kernel_rfl)] at hE
            obtain ⟨T7, D7⟩ := a7
            simp only at hE hd7
            subst hd7 hE
            clear k52 k53 k54 k55 k56 k57 k58 k59 k60 k61 k62 k63 k64 hf7 hs7 ho7 x1 x3 y1 y3 g0 g1 g2 g3 l0 l1 l2 l3 HS
            have HO4 := Lib.hid hO4
            have HX4 := Lib.hid hx4
            have HY4 := Lib.hid hy4
            have HB4 := Lib.hid hB4
            have HG7 := Lib.hid hg7
            clear hO4 hx4 hy4 hB4 hb7 hg7
            simp only [List.drop_succ_cons, List.drop_zero]
            refine wpList_append_own _ rfl _ _ 85 rfl (W.heap.size + 2) 3 i0 (.int .i64 0) 1 8 Tryz.underlying85 HI.out.1 HI.out.2.1 HI.out.2.2.1 HI.out.2.2.2 rfl (by decide) _ _ _ rfl HO4.out ⟨g7, 0, none⟩ 1 1 [.int .i64 (Tm.cmp us[j] us'[j])] rfl rfl ?c1 ?c2 ?c3 ?c4 ?c5 ?_
            case c1 =>
              intro i u hj
              match i, hj with
              | 0, hj => simp at hj; subst hj; exact cells_at HG7.out 0 _ rfl
            case c2 => intro u hu; simp at hu; subst hu; rfl
            case c3 => unfold maxLen; omega
            case c4 => omega
            case c5 => have h1 := (Array.getElem?_eq_some_iff.1 HY4.out).1; omega
            intro v6 w6 hO6 hg6 _
            have hob := HO.out.lt
            have hx6 := (hg6.block W.heap.size (Array.getElem?_eq_some_iff.1 HX4.out).1 (fun e => by have := (hob _ e.symm).1; omega)).trans HX4.out
            have hy6 := (hg6.block (W.heap.size + 1) (Array.getElem?_eq_some_iff.1 HY4.out).1 (fun e => by have := (hob _ e.symm).1; omega)).trans HY4.out
            have hB6 : Below W.heap.size W w6 := HB4.out.grown hg6 HB4.out.size (fun k e => by have := (hob k e).1; omega)
            have hl6 : [Value.int .i64 C1, .int .i64 0, .int .i64 C3, .int .i64 C4] ++ ((zipC us us').take (j + 1)).map (Value.int .i64) = [Value.int .i64 C1, .int .i64 0, .int .i64 C3, .int .i64 C4] ++ ((zipC us us').take j).map (Value.int .i64) ++ [Value.int .i64 (Tm.cmp us[j] us'[j])] := by
              rw [List.take_add_one, zipC_at us us' j hlt hlt']
              simp
            rw [← hl6] at hO6
            have HX6 := Lib.hid hx6
            have HY6 := Lib.hid hy6
            have HB6 := Lib.hid hB6
            have HO6 := Lib.hid hO6
            clear hx6 hy6 hB6 hO6 hg6 hob hl6
            go_wp2_with fail
            go_roundw
            case rel => exact ⟨j + 1, by omega, by omega, by go_num, HO6.out, HB6.out, HX6.out, HY6.out⟩
            case measure => simp [intOf]; omega
          · have hkj : (zipC us us').take j = zipC us us' := List.take_of_length_le (by omega)
            have hOO := HO.out
            rw [hkj] at hOO
            have HOO := Lib.hid (hOO.alloc (.cells #[.int .i64 CN] 3))
            have hjl := congrArg List.length hkj
            rw [List.length_take] at hjl
            clear hOO hkj HO
            go_wp2_with (first
              | (go_at_call 82; refine (HNN.out _).mono ?_; rintro e w2 ⟨rfl, rfl⟩)
              | (at_builtin; go_loud (refine wpList_append_own _ rfl _ _ 85 rfl (W.heap.size + 2) 3 i0 (.int .i64 0) 1 8 Tryz.underlying85 HI.out.1 HI.out.2.1 HI.out.2.2.1 HI.out.2.2.2 rfl (by decide) _ _ _ rfl HOO.out ⟨_, 0, none⟩ 1 1 [.int .i64 CN] rfl rfl ?c1 ?c2 ?c3 ?c4 ?c5 ?_)))
            case c1 =>
              intro i u hj
              match i, hj with
              | 0, hj => simp at hj; subst hj; simp [Addr.add]
            case c2 => intro u hu; simp at hu; subst hu; rfl
            case c3 => unfold maxLen; omega
            case c4 => omega
            case c5 => have h1 := (Array.getElem?_eq_some_iff.1 HYR.out).1; rw [World.size_alloc]; omega
            intro v6 w6 hO6 hg6 _
            have hob := HOO.out.lt
            have hB6 := (HBR.out.alloc HBR.out.size _).grown hg6 (by rw [World.size_alloc]; have := HBR.out.size; omega) (fun k e => by have := (hob k e).1; omega)
            obtain ⟨L, hL⟩ : ∃ L, C1 :: 0 :: C3 :: C4 :: (zipC us us' ++ [CN]) = L := ⟨_, rfl⟩
            have hLl : L.length = 4 + j + 1 := by rw [← hL]; simp; omega
            obtain ⟨g6, cap6, rfl, hc6⟩ : ∃ g cap, v6 = .slice (some ⟨g, 0, none⟩) (4 + j + 1) cap ∧ ∀ i (h : i < L.length), w6.cell? ⟨g, i, none⟩ = some (.int .i64 L[i]) := by
              have h6 := hO6
              rcases hO6.2 with ⟨_, h0⟩ | ⟨g, cap, cur, rfl, _⟩
              · omega
              · refine ⟨g, cap, rfl, fun i h => ?_⟩
                rw [h6.cellAt i (by omega)]
                subst hL
                have e : ∀ X : List Value, X = (C1 :: 0 :: C3 :: C4 :: (zipC us us' ++ [CN])).map (Value.int .i64) → X[i]? = some (.int .i64 ((C1 :: 0 :: C3 :: C4 :: (zipC us us' ++ [CN]))[i])) := by
                  rintro X rfl
                  rw [List.getElem?_map, List.getElem?_eq_getElem h]
                  rfl
                exact e _ (by simp)
            have HC6 := Lib.hid hc6
            have HB6 := Lib.hid hB6
            have HL := Lib.hid hL
            have HLL := Lib.hid hLl
            clear hO6 hg6 hob hB6 hL hLl hc6 hjl HOO
            generalize hN : 4 + j + 1 = N at HLL ⊢
            have hNb : N ≤ 1000010 := by omega
            clear hN
            go_wp2_with fail
            go_loop [7] (fun i => ∃ q : Nat, q ≤ N ∧ i = .int .i64 q ∧ firstI (L.drop q) = firstI L) (fun i => N - (intOf i).toNat)
            case atStart => exact ⟨0, by omega, by go_num, rfl⟩
            case round =>
              obtain ⟨q, hq, rfl, hqf⟩ := hrel
              have i1 : (0 : Int) ≤ (q : Int) := by omega
              by_cases hqn : q < N
              · have hqL : q < L.length := by rw [HLL.out]; exact hqn
                have hcell := HC6.out q hqL
                rw [List.drop_eq_getElem_cons hqL, firstI_cons] at hqf
                obtain ⟨X, hX⟩ : ∃ X, L[q] = X := ⟨_, rfl⟩
                rw [hX] at hcell hqf
                have i2 : (q : Int) < (N : Int) := by omega
                clear hX hqL
                by_cases hX0 : X = 0
                · subst hX0
                  have HQ := Lib.hid hqf
                  clear hqf
                  go_wp2_with fail
                  go_round
                  case rel => exact ⟨q + 1, by omega, by go_num, by rw [← HQ.out]; rfl⟩
                  case measure => simp [intOf]; omega
                · have hr : firstI L = X := by rw [← hqf]; exact orI_l hX0
                  have HR := Lib.hid hr
                  have e1 : (X != 0) = true := by simpa using hX0
                  clear hqf hr hX0
                  go_wp2_with fail
                  go_ret
                  exact ⟨by rw [HL.out, HR.out]; rfl, HB6.out⟩
              · rw [List.drop_eq_nil_of_le (by rw [HLL.out]; omega)] at hqf
                have hr : firstI L = 0 := hqf.symm
                have HR := Lib.hid hr
                clear hqf hr
                go_wp2_with fail
                go_ret
                exact ⟨by rw [HL.out, HR.out]; rfl, HB6.out⟩
        · have hkj : (zipC us us').take j = zipC us us' := List.take_of_length_le (by omega)
          have hOO := HO.out
          rw [hkj] at hOO
          have HOO := Lib.hid (hOO.alloc (.cells #[.int .i64 CN] 3))
          have hjl := congrArg List.length hkj
          rw [List.length_take] at hjl
          clear hOO hkj HO
          go_wp2_with (first
            | (go_at_call 82; refine (HNN.out _).mono ?_; rintro e w2 ⟨rfl, rfl⟩)
            | (at_builtin; go_loud (refine wpList_append_own _ rfl _ _ 85 rfl (W.heap.size + 2) 3 i0 (.int .i64 0) 1 8 Tryz.underlying85 HI.out.1 HI.out.2.1 HI.out.2.2.1 HI.out.2.2.2 rfl (by decide) _ _ _ rfl HOO.out ⟨_, 0, none⟩ 1 1 [.int .i64 CN] rfl rfl ?c1 ?c2 ?c3 ?c4 ?c5 ?_)))
          case c1 =>
            intro i u hj
            match i, hj with
            | 0, hj => simp at hj; subst hj; simp [Addr.add]
          case c2 => intro u hu; simp at hu; subst hu; rfl
          case c3 => unfold maxLen; omega
          case c4 => omega
          case c5 => have h1 := (Array.getElem?_eq_some_iff.1 HYR.out).1; rw [World.size_alloc]; omega
          intro v6 w6 hO6 hg6 _
          have hob := HOO.out.lt
          have hB6 := (HBR.out.alloc HBR.out.size _).grown hg6 (by rw [World.size_alloc]; have := HBR.out.size; omega) (fun k e => by have := (hob k e).1; omega)
          obtain ⟨L, hL⟩ : ∃ L, C1 :: 0 :: C3 :: C4 :: (zipC us us' ++ [CN]) = L := ⟨_, rfl⟩
          have hLl : L.length = 4 + j + 1 := by rw [← hL]; simp; omega
          obtain ⟨g6, cap6, rfl, hc6⟩ : ∃ g cap, v6 = .slice (some ⟨g, 0, none⟩) (4 + j + 1) cap ∧ ∀ i (h : i < L.length), w6.cell? ⟨g, i, none⟩ = some (.int .i64 L[i]) := by
            have h6 := hO6
            rcases hO6.2 with ⟨_, h0⟩ | ⟨g, cap, cur, rfl, _⟩
            · omega
            · refine ⟨g, cap, rfl, fun i h => ?_⟩
              rw [h6.cellAt i (by omega)]
              subst hL
              have e : ∀ X : List Value, X = (C1 :: 0 :: C3 :: C4 :: (zipC us us' ++ [CN])).map (Value.int .i64) → X[i]? = some (.int .i64 ((C1 :: 0 :: C3 :: C4 :: (zipC us us' ++ [CN]))[i])) := by
                rintro X rfl
                rw [List.getElem?_map, List.getElem?_eq_getElem h]
                rfl
              exact e _ (by simp)
          have HC6 := Lib.hid hc6
          have HB6 := Lib.hid hB6
          have HL := Lib.hid hL
          have HLL := Lib.hid hLl
          clear hO6 hg6 hob hB6 hL hLl hc6 hjl HOO
          generalize hN : 4 + j + 1 = N at HLL ⊢
          have hNb : N ≤ 1000010 := by omega
          clear hN
          go_wp2_with fail
          go_loop [7] (fun i => ∃ q : Nat, q ≤ N ∧ i = .int .i64 q ∧ firstI (L.drop q) = firstI L) (fun i => N - (intOf i).toNat)
          case atStart => exact ⟨0, by omega, by go_num, rfl⟩
          case round =>
            obtain ⟨q, hq, rfl, hqf⟩ := hrel
            have i1 : (0 : Int) ≤ (q : Int) := by omega
            by_cases hqn : q < N
            · have hqL : q < L.length := by rw [HLL.out]; exact hqn
              have hcell := HC6.out q hqL
              rw [List.drop_eq_getElem_cons hqL, firstI_cons] at hqf
              obtain ⟨X, hX⟩ : ∃ X, L[q] = X := ⟨_, rfl⟩
              rw [hX] at hcell hqf
              have i2 : (q : Int) < (N : Int) := by omega
              clear hX hqL
              by_cases hX0 : X = 0
              · subst hX0
                have HQ := Lib.hid hqf
                clear hqf
                go_wp2_with fail
                go_round
                case rel => exact ⟨q + 1, by omega, by go_num, by rw [← HQ.out]; rfl⟩
                case measure => simp [intOf]; omega
              · have hr : firstI L = X := by rw [← hqf]; exact orI_l hX0
                have HR := Lib.hid hr
                have e1 : (X != 0) = true := by simpa using hX0
                clear hqf hr hX0
                go_wp2_with fail
                go_ret
                exact ⟨by rw [HL.out, HR.out]; rfl, HB6.out⟩
            · rw [List.drop_eq_nil_of_le (by rw [HLL.out]; omega)] at hqf
              have hr : firstI L = 0 := hqf.symm
              have HR := Lib.hid hr
              clear hqf hr
              go_wp2_with fail
              go_ret
              exact ⟨by rw [HL.out, HR.out]; rfl, HB6.out⟩

theorem rcompare_any (t t' : Tm) (c0 c1 c2 c3 d0 d1 d2 d3 : Value) (W : World) (h : IsTm W.heap.size W c0 c1 c2 c3 t) (h' : IsTm W.heap.size W d0 d1 d2 d3 t') (hc : t.count ≤ 1000000) :
    Calls Tryz.prog 48 #[.agg #[c0, c1, c2, c3], .agg #[d0, d1, d2, d3]] W fun e W' => e = .returned (.int .i64 (Tm.cmp t t')) ∧ Below W.heap.size W W' :=
  rcompare_at W.heap.size t t' c0 c1 c2 c3 d0 d1 d2 d3 W h h' (Nat.le_refl _) hc
end Go.Proofs.YtcoieohbmkjpoaaGreatDoor
