/- 'ostlerlaw02.ArithReplaces', its walk and its card: whatever the arguments, the law returns true. -/
import Derived.Test.YteaiocdopjekhaaGreatDoorBs
import Derived.Test.YteaiocdopjekhaaGreatDoorRi
import Derived.Test.YteaiocdopjekhaaGreatDoorRm
import Derived.IntWalk
import Derived.Test.YteaiocdopjekhaaGreatDoorCards
import Derived.Test.YteaiocdopjekhaaGreatDoorTie
import Derived.Test.YteaiocdopjekhaaGreatDoorAy
import Derived.Test.YteaiocdopjekhaaGreatDoorFa
import Derived.Test.YteaiocdopjekhaaGreatDoorOp
namespace Go.Proofs.YteaiocdopjekhaaGreatDoor
open Go.RowKit Go.Shelf
attribute [local go_sem] Oper.semAt_some

theorem agg_shape {w : World} {v : Value} {k n : Int} {s : ByteArray} {us : List Tm} (h : TmV w v (.mk k n s us)) : ∃ (a : Option Addr) (c : Nat), v = .agg #[.int .u8 k, .int .i64 n, .string s, .slice a us.length c] := by
  obtain ⟨c0, c1, c2, c3, rfl, h⟩ := h
  simp only [IsTm] at h
  obtain ⟨rfl, _, rfl, _, rfl, _, a, cap, rfl, _⟩ := h
  exact ⟨a, cap, rfl⟩
def bwDescs19 (ts1 ts2 : List Tm) (b1 o1 c10 b2 o2 c12 j q : Nat) (p0 p1 p2 p3 r0 r1 r2 r3 : Value) (EB : Bool) : List Du := [.val (.slice (some ⟨b1, o1, none⟩) ts1.length c10), .val (.int .i64 ((j : Int))), .val (.pointer (some ⟨b1, o1 + j * 4, none⟩)), .val (.agg #[p0, p1, p2, p3]), .val (.slice (some ⟨b2, o2, none⟩) ts2.length c12), .val (.int .i64 ((q : Int))), .val (.pointer (some ⟨b2, o2 + q * 4, none⟩)), .val (.agg #[r0, r1, r2, r3]), .val (.bool (EB))]
set_option maxRecDepth 100000 in
set_option maxHeartbeats 40000000 in
theorem replaces_any (k n : Int) (s : ByteArray) (us : List Tm) (c0 c1 c2 c3 : Value) (lo sze pck : Int) (w : World) (hT0 : IsTm w.heap.size w c0 c1 c2 c3 (.mk k n s us))
    (HAW0 : ∀ w, Calls Tryz.prog 8 #[] w fun e w' => e = .returned (.bool true) ∧ Below w.heap.size w w') :
    Calls Tryz.prog 7 #[.agg #[c0, c1, c2, c3], .int .i64 lo, .int .i64 sze, .int .i64 pck] w fun e w' => e = .returned (.bool true) ∧ Below w.heap.size w w' := by
  have hT1 := hT0
  simp only [IsTm] at hT1
  obtain ⟨rfl, _, rfl, _, rfl, _, a, cap, rfl, hl, _⟩ := hT1
  have HT0 := Lib.hid hT0
  have HAW := Lib.hid HAW0
  have hB0 : Below w.heap.size w (w.alloc (.cells #[.int .u8 k, .int .i64 n, .string s, .slice a us.length cap] 32)) := (Below.refl _ w).alloc (Nat.le_refl _) _
  have r1 : Row4 w.heap.size #[.int .u8 k, .int .i64 n, .string s, .slice a us.length cap] (w.alloc (.cells #[.int .u8 k, .int .i64 n, .string s, .slice a us.length cap] 32)) := Row4.new w _
  clear hT0 HAW0
  obtain ⟨n1, hn1⟩ : ∃ n1, w.heap.size = n1 := ⟨_, rfl⟩
  go_enter Tryz.func7, Tryz.ntmps7
  refine wp_seq_k fun K hK => ?_
  have HK := Lib.hid hK
  clear hK
  go_wp2_with fail
  revert hB0 r1
  generalize (w.alloc (.cells #[.int .u8 k, .int .i64 n, .string s, .slice a us.length cap] 32)) = W0
  intro hB0 r1
  rw [hn1] at r1
  have Q1 := Lib.hid r1
  have BW := Lib.hid hB0
  have HT := Lib.hid (show TmV W0 (.agg #[.int .u8 k, .int .i64 n, .string s, .slice a us.length cap]) (Tm.mk k n s us) from ⟨_, _, _, _, rfl, (HT0.out.below hB0).mono hB0.size⟩)
  clear r1 hB0 HT0
  refine HK.out _ _ ?_
  clear HK
  refine wp_seq_k fun K hK => ?_
  have HK := Lib.hid hK
  clear hK
  go_wp2_with (go_at_call 8; refine (HAW.out W0).mono ?_)
  rintro e W1 ⟨rfl, b⟩
  have q := Lib.hid (Q1.out.grow b)
  clear Q1
  have Q1 := q
  clear q
  have q := Lib.hid (HT.out.grow b)
  clear HT
  have HT := q
  clear q
  have q := Lib.hid (BW.out.trans (b.mono BW.out.size))
  clear b BW
  have BW := q
  clear q
  clear HAW
  go_wp2_with fail
  refine HK.out _ _ ?_
  clear HK
  refine wp_seq_k fun K hK => ?_
  have HK := Lib.hid hK
  clear hK
  have x0 := cells_at Q1.out 0 _ rfl
  have x1 := cells_at Q1.out 1 _ rfl
  have x2 := cells_at Q1.out 2 _ rfl
  have x3 := cells_at Q1.out 3 _ rfl
  go_wp2_with (go_at_call 13; refine (sizeTerm_any (.mk k n s us) _ _ _ _ 30 W1 HT.out.isTm (by omega) (by omega)).mono ?_)
  rintro e W2 ⟨rfl, b⟩
  have hsz := sizeT_bounds (.mk k n s us) 30
  obtain ⟨sz, hszq⟩ : ∃ sz, sizeT (.mk k n s us) 30 = sz := ⟨_, rfl⟩
  have HSZ := Lib.hid hszq
  rw [hszq] at hsz
  simp only [hszq]
  clear x0 x1 x2 x3
  have q := Lib.hid (Q1.out.grow b)
  clear Q1
  have Q1 := q
  clear q
  have q := Lib.hid (HT.out.grow b)
  clear HT
  have HT := q
  clear q
  have q := Lib.hid (BW.out.trans (b.mono BW.out.size))
  clear b BW
  have BW := q
  clear q
  clear hszq hsz
  by_cases hle : 30 < sz
  · go_wp2
    go_ret
    exact ⟨rfl, by first | exact BW.out | (rw [← hn1]; exact BW.out)⟩
  by_cases hlo1 : lo < -1000
  · go_wp2
    go_ret
    exact ⟨rfl, by first | exact BW.out | (rw [← hn1]; exact BW.out)⟩
  by_cases hlo2 : 1000 < lo
  · go_wp2
    go_ret
    exact ⟨rfl, by first | exact BW.out | (rw [← hn1]; exact BW.out)⟩
  have hcnt : (Tm.mk k n s us).count ≤ 30 := by
    have h1 := sizeT_whole (.mk k n s us) 30 (by rw [HSZ.out]; omega)
    rw [HSZ.out] at h1
    omega
  have hdp := Tm.depth_le_count (.mk k n s us)
  have HDP := Lib.hid (show (Tm.mk k n s us).depth ≤ 30 by omega)
  clear hcnt hdp HSZ
  go_wp2_with fail
  refine HK.out _ _ ?_
  clear HK
  refine wp_seq_k fun K hK => ?_
  have HK := Lib.hid hK
  clear hK
  have hpk := pickI_in sze (m := 50) (by omega)
  go_wp2_with (go_at_call 23; refine (pick_any sze 50 (by omega) W2).mono ?_)
  rintro e W3 ⟨rfl, rfl⟩
  obtain ⟨m, hm⟩ : ∃ m, pickI sze 50 = m := ⟨_, rfl⟩
  rw [hm] at hpk
  simp only [hm]
  clear hm
  go_wp2_with fail
  refine HK.out _ _ ?_
  clear HK
  refine wp_seq_k fun K hK => ?_
  have HK := Lib.hid hK
  clear hK
  have w1 : IntKind.i64.wrap (lo + m) = lo + m := IntWalk.i64_in _ (by omega)
  have w2 : IntKind.i64.wrap (m + 1) = m + 1 := IntWalk.i64_in _ (by omega)
  have w3 : IntKind.i64.wrap (lo - 1) = lo - 1 := IntWalk.i64_in _ (by omega)
  have w4 : IntKind.i64.wrap (lo - 1 - m) = lo - 1 - m := IntWalk.i64_in _ (by omega)
  refine wp_region_growB (by kernel_rfl) (FY [.tm (Tm.mk k n s us), .val (.int .i64 lo), .tm (tNum (lo)), .val (.int .i64 lo), .val (.int .i64 m), .val (.int .i64 (lo + m)), .tm (tNum (lo + m)), .tm (tSpan (tNum lo) (tNum (lo + m))), .sl [(Tm.mk k n s us), (tSpan (tNum lo) (tNum (lo + m)))], .tm (tFun sF [(Tm.mk k n s us), tSpan (tNum lo) (tNum (lo + m))]), .ex (tFun sF [(Tm.mk k n s us), tSpan (tNum lo) (tNum (lo + m))]), .ex (tFun sF [(Tm.mk k n s us), tSpan (tNum lo) (tNum (lo + m))]), .exv (tFun sF [(Tm.mk k n s us), tSpan (tNum lo) (tNum (lo + m))]), .exe (tFun sF [(Tm.mk k n s us), tSpan (tNum lo) (tNum (lo + m))]), .exv (tFun sF [(Tm.mk k n s us), tSpan (tNum lo) (tNum (lo + m))]), .exe (tFun sF [(Tm.mk k n s us), tSpan (tNum lo) (tNum (lo + m))])]) (FY_grow _) (by kernel_rfl) (steps_all ⟨?_, ?_, ?_, ?_, ?_, ?_, ?_, ?_, ?_, ?_, ?_, ?_, ?_, ?_, ?_, ?_, trivial⟩) ?_
  · intro ac wz hb hd hs ho hp
    refine ⟨rfl, ?_⟩
    have h4 : ac.tmps.getD 4 undef = .pointer (some ⟨n1, 0, none⟩) := (ho 4 (by kernel_rfl)).trans rfl
    have hx := Q1.out.grow hb
    have x0 := cells_at hx 0 _ rfl
    have x1 := cells_at hx 1 _ rfl
    have x2 := cells_at hx 2 _ rfl
    have x3 := cells_at hx 3 _ rfl
    unfold Oper.wp
    go_simp
    exact Stepped.at rfl hd (Below.refl _ _) (FY_mk (.tm (Tm.mk k n s us)) rfl (HT.out.grow hb))
  · intro ac wz hb hd hs ho hp
    refine ⟨rfl, ?_⟩
    have h1 : ac.tmps.getD 1 undef = .int .i64 lo := (ho 1 (by kernel_rfl)).trans rfl
    unfold Oper.wp
    go_simp
    exact Stepped.at rfl hd (Below.refl _ _) (FY_mk (.val (.int .i64 lo)) rfl rfl)
  · intro ac wz hb hd hs ho hp
    refine ⟨rfl, ?_⟩
    have h35 : ac.tmps.getD 35 undef = .int .i64 (lo) := yval hp 1 35 (by kernel_rfl) rfl
    unfold Oper.wp
    go_simp
    refine (num_any (lo) (i64_mk (by omega)) _).mono ?_
    rintro e w2 ⟨v, rfl, h1, h2⟩
    exact Stepped.at rfl hd h2 (FY_mk (.tm (tNum (lo))) rfl h1)
  · intro ac wz hb hd hs ho hp
    refine ⟨rfl, ?_⟩
    have h1 : ac.tmps.getD 1 undef = .int .i64 lo := (ho 1 (by kernel_rfl)).trans rfl
    unfold Oper.wp
    go_simp
    exact Stepped.at rfl hd (Below.refl _ _) (FY_mk (.val (.int .i64 lo)) rfl rfl)
  · intro ac wz hb hd hs ho hp
    refine ⟨rfl, ?_⟩
    have h9 : ac.tmps.getD 9 undef = .int .i64 m := (ho 9 (by kernel_rfl)).trans rfl
    unfold Oper.wp
    go_simp
    exact Stepped.at rfl hd (Below.refl _ _) (FY_mk (.val (.int .i64 m)) rfl rfl)
  · intro ac wz hb hd hs ho hp
    refine ⟨rfl, ?_⟩
    have h37 : ac.tmps.getD 37 undef = .int .i64 lo := yval hp 3 37 (by kernel_rfl) rfl
    have h38 : ac.tmps.getD 38 undef = .int .i64 m := yval hp 4 38 (by kernel_rfl) rfl
    unfold Oper.wp
    go_simp
    exact Stepped.at rfl hd (Below.refl _ _) (FY_mk (.val (.int .i64 (lo + m))) rfl (by first | rfl | simp))
  · intro ac wz hb hd hs ho hp
    refine ⟨rfl, ?_⟩
    have h39 : ac.tmps.getD 39 undef = .int .i64 (lo + m) := yval hp 5 39 (by kernel_rfl) rfl
    unfold Oper.wp
    go_simp
    refine (num_any (lo + m) (i64_mk (by omega)) _).mono ?_
    rintro e w2 ⟨v, rfl, h1, h2⟩
    exact Stepped.at rfl hd h2 (FY_mk (.tm (tNum (lo + m))) rfl h1)
  · intro ac wz hb hd hs ho hp
    refine ⟨rfl, ?_⟩
    have q1 := ytm hp 2 36 (t := (tNum lo)) (by kernel_rfl) rfl
    obtain ⟨aq1, cq1, eq1⟩ := agg_shape q1
    rw [eq1] at q1
    have q2 := ytm hp 6 40 (t := (tNum (lo + m))) (by kernel_rfl) rfl
    obtain ⟨aq2, cq2, eq2⟩ := agg_shape q2
    rw [eq2] at q2
    have HS := Lib.hid (lspan_any wz q1 q2)
    clear q1 q2
    unfold Oper.wp
    go_simp
    refine HS.out.mono ?_
    rintro e w2 ⟨v, rfl, h1, h2⟩
    exact Stepped.at rfl hd h2 (FY_mk (.tm (tSpan (tNum lo) (tNum (lo + m)))) rfl h1)
  · intro ac wz hb hd hs ho hp
    refine ⟨rfl, ?_⟩
    have q1 := ytm hp 0 34 (t := (Tm.mk k n s us)) (by kernel_rfl) rfl
    obtain ⟨aq1, cq1, eq1⟩ := agg_shape q1
    rw [eq1] at q1
    have q2 := ytm hp 7 41 (t := (tSpan (tNum lo) (tNum (lo + m)))) (by kernel_rfl) rfl
    obtain ⟨aq2, cq2, eq2⟩ := agg_shape q2
    rw [eq2] at q2
    have s1 := qslot_of (hs.trans (show _ = 137 from rfl)) (by decide) eq1
    have s2 := qslot_of (hs.trans (show _ = 137 from rfl)) (by decide) eq2
    have HS := Lib.hid (slV_two q1 q2)
    clear q1 q2
    unfold Oper.wp
    go_simp
    exact Stepped.at (v := .slice (some ⟨wz.heap.size, 0, none⟩) 2 2) rfl hd ((Below.refl _ _).alloc (Nat.le_refl _) _) (FY_mk (.sl [(Tm.mk k n s us), (tSpan (tNum lo) (tNum (lo + m)))]) rfl HS.out)
  · intro ac wz hb hd hs ho hp
    refine ⟨rfl, ?_⟩
    have q := ysl hp 8 42 (ts := [(Tm.mk k n s us), (tSpan (tNum lo) (tNum (lo + m)))]) (by kernel_rfl) rfl
    obtain ⟨v, hv⟩ : ∃ v, ac.tmps.getD 42 undef = v := ⟨_, rfl⟩
    rw [hv] at q
    have HQ := Lib.hid q
    clear q
    unfold Oper.wp
    go_simp
    refine (fun_any sF (by unfold maxLen; decide) _ _ _ HQ.out).mono ?_
    rintro e w2 ⟨v, rfl, h1, h2⟩
    exact Stepped.at rfl hd h2 (FY_mk (.tm (tFun sF [(Tm.mk k n s us), tSpan (tNum lo) (tNum (lo + m))])) rfl h1)
  · intro ac wz hb hd hs ho hp
    refine ⟨rfl, ?_⟩
    have q := ytm hp 9 43 (t := (tFun sF [(Tm.mk k n s us), tSpan (tNum lo) (tNum (lo + m))])) (by kernel_rfl) rfl
    obtain ⟨v, hv⟩ : ∃ v, ac.tmps.getD 43 undef = v := ⟨_, rfl⟩
    rw [hv] at q
    have HQ := Lib.hid (expand_gives (tFun sF [(Tm.mk k n s us), tSpan (tNum lo) (tNum (lo + m))]) v wz q (by have := HDP.out; simp only [tFun, tSpan, tNum, Tm.depth, Tm.depthL] at this ⊢; omega))
    clear q
    unfold Oper.wp
    go_simp
    refine HQ.out.mono ?_
    rintro e w2 ⟨x, er, rfl, h1, h2⟩
    exact Stepped.at rfl hd h2 (FY_mk (.ex (tFun sF [(Tm.mk k n s us), tSpan (tNum lo) (tNum (lo + m))])) rfl ⟨x, er, rfl, h1⟩)
  · intro ac wz hb hd hs ho hp
    refine ⟨rfl, ?_⟩
    obtain ⟨x, er, h0, hx⟩ := yex hp 10 44 (t := (tFun sF [(Tm.mk k n s us), tSpan (tNum lo) (tNum (lo + m))])) (by kernel_rfl) rfl
    have HX := Lib.hid hx
    clear hx
    unfold Oper.wp
    go_simp
    exact Stepped.at rfl hd (Below.refl _ _) (FY_mk (.ex (tFun sF [(Tm.mk k n s us), tSpan (tNum lo) (tNum (lo + m))])) rfl ⟨x, er, rfl, HX.out⟩)
  · intro ac wz hb hd hs ho hp
    refine ⟨rfl, ?_⟩
    obtain ⟨x, er, h0, hx⟩ := yex hp 11 33 (t := (tFun sF [(Tm.mk k n s us), tSpan (tNum lo) (tNum (lo + m))])) (by kernel_rfl) rfl
    have HX := Lib.hid hx
    clear hx
    unfold Oper.wp
    go_simp
    exact Stepped.at rfl hd (Below.refl _ _) (FY_mk (.exv (tFun sF [(Tm.mk k n s us), tSpan (tNum lo) (tNum (lo + m))])) rfl ⟨er, HX.out⟩)
  · intro ac wz hb hd hs ho hp
    refine ⟨rfl, ?_⟩
    obtain ⟨x, er, h0, hx⟩ := yex hp 11 33 (t := (tFun sF [(Tm.mk k n s us), tSpan (tNum lo) (tNum (lo + m))])) (by kernel_rfl) rfl
    have HX := Lib.hid hx
    clear hx
    unfold Oper.wp
    go_simp
    exact Stepped.at rfl hd (Below.refl _ _) (FY_mk (.exe (tFun sF [(Tm.mk k n s us), tSpan (tNum lo) (tNum (lo + m))])) rfl ⟨x, er, rfl, HX.out⟩)
  · intro ac wz hb hd hs ho hp
    refine ⟨rfl, ?_⟩
    obtain ⟨er, hx⟩ := yexv hp 12 45 (t := (tFun sF [(Tm.mk k n s us), tSpan (tNum lo) (tNum (lo + m))])) (by kernel_rfl) rfl
    obtain ⟨v, hv⟩ : ∃ v, ac.tmps.getD 45 undef = v := ⟨_, rfl⟩
    rw [hv] at hx
    have HX := Lib.hid hx
    clear hx
    unfold Oper.wp
    go_simp
    exact Stepped.at rfl hd (Below.refl _ _) (FY_mk (.exv (tFun sF [(Tm.mk k n s us), tSpan (tNum lo) (tNum (lo + m))])) rfl ⟨er, HX.out⟩)
  · intro ac wz hb hd hs ho hp
    refine ⟨rfl, ?_⟩
    obtain ⟨x, er, h0, hx⟩ := yexe hp 13 46 (t := (tFun sF [(Tm.mk k n s us), tSpan (tNum lo) (tNum (lo + m))])) (by kernel_rfl) rfl
    have HX := Lib.hid hx
    clear hx
    unfold Oper.wp
    go_simp
    exact Stepped.at rfl hd (Below.refl _ _) (FY_mk (.exe (tFun sF [(Tm.mk k n s us), tSpan (tNum lo) (tNum (lo + m))])) rfl ⟨x, er, rfl, HX.out⟩)
  intro ac W4 hJ
  obtain ⟨e10, g0⟩ := FY_at (.exv (tFun sF [(Tm.mk k n s us), tSpan (tNum lo) (tNum (lo + m))])) rfl (hJ.at_end 14 10 (by kernel_rfl))
  obtain ⟨y11, er11, f11, g1⟩ := FY_at (.exe (tFun sF [(Tm.mk k n s us), tSpan (tNum lo) (tNum (lo + m))])) rfl (hJ.at_end 15 11 (by kernel_rfl))
  obtain ⟨v10, f10⟩ : ∃ v, ac.tmps.getD 10 undef = v := ⟨_, rfl⟩
  rw [f10] at g0
  obtain rfl := g0.err g1
  have X10 := Lib.hid g0
  clear g0 g1
  obtain ⟨u34, f34⟩ : ∃ u, ac.tmps.getD 34 undef = u := ⟨_, rfl⟩
  obtain ⟨u35, f35⟩ : ∃ u, ac.tmps.getD 35 undef = u := ⟨_, rfl⟩
  obtain ⟨u36, f36⟩ : ∃ u, ac.tmps.getD 36 undef = u := ⟨_, rfl⟩
  obtain ⟨u37, f37⟩ : ∃ u, ac.tmps.getD 37 undef = u := ⟨_, rfl⟩
  obtain ⟨u38, f38⟩ : ∃ u, ac.tmps.getD 38 undef = u := ⟨_, rfl⟩
  obtain ⟨u39, f39⟩ : ∃ u, ac.tmps.getD 39 undef = u := ⟨_, rfl⟩
  obtain ⟨u40, f40⟩ : ∃ u, ac.tmps.getD 40 undef = u := ⟨_, rfl⟩
  obtain ⟨u41, f41⟩ : ∃ u, ac.tmps.getD 41 undef = u := ⟨_, rfl⟩
  obtain ⟨u42, f42⟩ : ∃ u, ac.tmps.getD 42 undef = u := ⟨_, rfl⟩
  obtain ⟨u43, f43⟩ : ∃ u, ac.tmps.getD 43 undef = u := ⟨_, rfl⟩
  obtain ⟨u44, f44⟩ : ∃ u, ac.tmps.getD 44 undef = u := ⟨_, rfl⟩
  obtain ⟨u33, f33⟩ : ∃ u, ac.tmps.getD 33 undef = u := ⟨_, rfl⟩
  obtain ⟨u45, f45⟩ : ∃ u, ac.tmps.getD 45 undef = u := ⟨_, rfl⟩
  obtain ⟨u46, f46⟩ : ∃ u, ac.tmps.getD 46 undef = u := ⟨_, rfl⟩
  have b := hJ.below
  obtain ⟨TT, DD⟩ := ac
  obtain rfl : DD = [] := hJ.defers
  have hE := slots_merge [false, false, false, false, false, false, false, false, false, false, true, true, false, false, false, false, false, false, false, false, false, false, false, false, false, false, false, false, false, false, false, false, false, true, true, true, true, true, true, true, true, true, true, true, true, true, true, false, false, false, false, false, false, false, false, false, false, false, false, false, false, false, false, false, false, false, false, false, false, false, false, false, false, false, false, false, false, false, false, false, false, false, false, false, false, false, false, false, false, false, false, false, false, false, false, false, false, false, false, false, false, false, false, false, false, false, false, false, false, false, false, false, false, false, false, false, false, false, false, false, false, false, false, false, false, false, false, false, false, false, false, false, false, false, false, false, false] 137 hJ.tmps rfl (by kernel_rfl) hJ.outer
  simp only [mergeFrom, Nat.zero_add, Nat.reduceAdd, f34, f35, f36, f37, f38, f39, f40, f41, f42, f43, f44, f33, f45, f46, f10, f11] at hE
  clear hJ f34 f35 f36 f37 f38 f39 f40 f41 f42 f43 f44 f33 f45 f46 f10 f11
  subst hE
  have q := Lib.hid (Q1.out.grow b)
  clear Q1
  have Q1 := q
  clear q
  have q := Lib.hid (HT.out.grow b)
  clear HT
  have HT := q
  clear q
  have q := Lib.hid (BW.out.trans (b.mono BW.out.size))
  clear b BW
  have BW := q
  clear q
  refine HK.out _ _ ?_
  clear HK
  have hpp := pickI_in pck (m := m + 1) (by omega)
  have HPK := Lib.hid (fun w => pick_any pck (m + 1) (by omega) w)
  obtain ⟨pp, hppq⟩ : ∃ z, pickI pck (m + 1) = z := ⟨_, rfl⟩
  rw [hppq] at hpp HPK
  clear hppq
  have w5 : IntKind.i64.wrap (lo + pp) = lo + pp := IntWalk.i64_in _ (by omega)
  refine wp_seq_k fun K hK => ?_
  have HK := Lib.hid hK
  clear hK
  refine wp_region_growB (by kernel_rfl) (FY [.tm (Tm.mk k n s us), .val (.int .i64 lo), .val (.int .i64 pck), .val (.int .i64 m), .val (.int .i64 (m + 1)), .val (.int .i64 pp), .val (.int .i64 (lo + pp)), .tm (tNum (lo + pp)), .sl [(Tm.mk k n s us), (tNum (lo + pp))], .tm (tFun sF [(Tm.mk k n s us), tNum (lo + pp)]), .ex (tFun sF [(Tm.mk k n s us), tNum (lo + pp)]), .ex (tFun sF [(Tm.mk k n s us), tNum (lo + pp)]), .exv (tFun sF [(Tm.mk k n s us), tNum (lo + pp)]), .exe (tFun sF [(Tm.mk k n s us), tNum (lo + pp)]), .exv (tFun sF [(Tm.mk k n s us), tNum (lo + pp)]), .exe (tFun sF [(Tm.mk k n s us), tNum (lo + pp)])]) (FY_grow _) (by kernel_rfl) (steps_all ⟨?_, ?_, ?_, ?_, ?_, ?_, ?_, ?_, ?_, ?_, ?_, ?_, ?_, ?_, ?_, ?_, trivial⟩) ?_
  · intro ac wz hb hd hs ho hp
    refine ⟨rfl, ?_⟩
    have h4 : ac.tmps.getD 4 undef = .pointer (some ⟨n1, 0, none⟩) := (ho 4 (by kernel_rfl)).trans rfl
    have hx := Q1.out.grow hb
    have x0 := cells_at hx 0 _ rfl
    have x1 := cells_at hx 1 _ rfl
    have x2 := cells_at hx 2 _ rfl
    have x3 := cells_at hx 3 _ rfl
    unfold Oper.wp
    go_simp
    exact Stepped.at rfl hd (Below.refl _ _) (FY_mk (.tm (Tm.mk k n s us)) rfl (HT.out.grow hb))
  · intro ac wz hb hd hs ho hp
    refine ⟨rfl, ?_⟩
    have h1 : ac.tmps.getD 1 undef = .int .i64 lo := (ho 1 (by kernel_rfl)).trans rfl
    unfold Oper.wp
    go_simp
    exact Stepped.at rfl hd (Below.refl _ _) (FY_mk (.val (.int .i64 lo)) rfl rfl)
  · intro ac wz hb hd hs ho hp
    refine ⟨rfl, ?_⟩
    have h3 : ac.tmps.getD 3 undef = .int .i64 pck := (ho 3 (by kernel_rfl)).trans rfl
    unfold Oper.wp
    go_simp
    exact Stepped.at rfl hd (Below.refl _ _) (FY_mk (.val (.int .i64 pck)) rfl rfl)
  · intro ac wz hb hd hs ho hp
    refine ⟨rfl, ?_⟩
    have h9 : ac.tmps.getD 9 undef = .int .i64 m := (ho 9 (by kernel_rfl)).trans rfl
    unfold Oper.wp
    go_simp
    exact Stepped.at rfl hd (Below.refl _ _) (FY_mk (.val (.int .i64 m)) rfl rfl)
  · intro ac wz hb hd hs ho hp
    refine ⟨rfl, ?_⟩
    have h51 : ac.tmps.getD 51 undef = .int .i64 m := yval hp 3 51 (by kernel_rfl) rfl
    unfold Oper.wp
    go_simp
    exact Stepped.at rfl hd (Below.refl _ _) (FY_mk (.val (.int .i64 (m + 1))) rfl (by first | rfl | simp))
  · intro ac wz hb hd hs ho hp
    refine ⟨rfl, ?_⟩
    have h50 : ac.tmps.getD 50 undef = .int .i64 pck := yval hp 2 50 (by kernel_rfl) rfl
    have h52 : ac.tmps.getD 52 undef = .int .i64 (m + 1) := yval hp 4 52 (by kernel_rfl) rfl
    unfold Oper.wp
    go_simp
    refine (HPK.out wz).mono ?_
    rintro e w2 ⟨rfl, rfl⟩
    exact Stepped.at rfl hd (Below.refl _ _) (FY_mk (.val (.int .i64 pp)) rfl rfl)
  · intro ac wz hb hd hs ho hp
    refine ⟨rfl, ?_⟩
    have h49 : ac.tmps.getD 49 undef = .int .i64 lo := yval hp 1 49 (by kernel_rfl) rfl
    have h53 : ac.tmps.getD 53 undef = .int .i64 pp := yval hp 5 53 (by kernel_rfl) rfl
    unfold Oper.wp
    go_simp
    exact Stepped.at rfl hd (Below.refl _ _) (FY_mk (.val (.int .i64 (lo + pp))) rfl (by first | rfl | simp))
  · intro ac wz hb hd hs ho hp
    refine ⟨rfl, ?_⟩
    have h54 : ac.tmps.getD 54 undef = .int .i64 (lo + pp) := yval hp 6 54 (by kernel_rfl) rfl
    unfold Oper.wp
    go_simp
    refine (num_any (lo + pp) (i64_mk (by omega)) _).mono ?_
    rintro e w2 ⟨v, rfl, h1, h2⟩
    exact Stepped.at rfl hd h2 (FY_mk (.tm (tNum (lo + pp))) rfl h1)
  · intro ac wz hb hd hs ho hp
    refine ⟨rfl, ?_⟩
    have q1 := ytm hp 0 48 (t := (Tm.mk k n s us)) (by kernel_rfl) rfl
    obtain ⟨aq1, cq1, eq1⟩ := agg_shape q1
    rw [eq1] at q1
    have q2 := ytm hp 7 55 (t := (tNum (lo + pp))) (by kernel_rfl) rfl
    obtain ⟨aq2, cq2, eq2⟩ := agg_shape q2
    rw [eq2] at q2
    have s1 := qslot_of (hs.trans (show _ = 137 from rfl)) (by decide) eq1
    have s2 := qslot_of (hs.trans (show _ = 137 from rfl)) (by decide) eq2
    have HS := Lib.hid (slV_two q1 q2)
    clear q1 q2
    unfold Oper.wp
    go_simp
    exact Stepped.at (v := .slice (some ⟨wz.heap.size, 0, none⟩) 2 2) rfl hd ((Below.refl _ _).alloc (Nat.le_refl _) _) (FY_mk (.sl [(Tm.mk k n s us), (tNum (lo + pp))]) rfl HS.out)
  · intro ac wz hb hd hs ho hp
    refine ⟨rfl, ?_⟩
    have q := ysl hp 8 56 (ts := [(Tm.mk k n s us), (tNum (lo + pp))]) (by kernel_rfl) rfl
    obtain ⟨v, hv⟩ : ∃ v, ac.tmps.getD 56 undef = v := ⟨_, rfl⟩
    rw [hv] at q
    have HQ := Lib.hid q
    clear q
    unfold Oper.wp
    go_simp
    refine (fun_any sF (by unfold maxLen; decide) _ _ _ HQ.out).mono ?_
    rintro e w2 ⟨v, rfl, h1, h2⟩
    exact Stepped.at rfl hd h2 (FY_mk (.tm (tFun sF [(Tm.mk k n s us), tNum (lo + pp)])) rfl h1)
  · intro ac wz hb hd hs ho hp
    refine ⟨rfl, ?_⟩
    have q := ytm hp 9 57 (t := (tFun sF [(Tm.mk k n s us), tNum (lo + pp)])) (by kernel_rfl) rfl
    obtain ⟨v, hv⟩ : ∃ v, ac.tmps.getD 57 undef = v := ⟨_, rfl⟩
    rw [hv] at q
    have HQ := Lib.hid (expand_gives (tFun sF [(Tm.mk k n s us), tNum (lo + pp)]) v wz q (by have := HDP.out; simp only [tFun, tNum, Tm.depth, Tm.depthL] at this ⊢; omega))
    clear q
    unfold Oper.wp
    go_simp
    refine HQ.out.mono ?_
    rintro e w2 ⟨x, er, rfl, h1, h2⟩
    exact Stepped.at rfl hd h2 (FY_mk (.ex (tFun sF [(Tm.mk k n s us), tNum (lo + pp)])) rfl ⟨x, er, rfl, h1⟩)
  · intro ac wz hb hd hs ho hp
    refine ⟨rfl, ?_⟩
    obtain ⟨x, er, h0, hx⟩ := yex hp 10 58 (t := (tFun sF [(Tm.mk k n s us), tNum (lo + pp)])) (by kernel_rfl) rfl
    have HX := Lib.hid hx
    clear hx
    unfold Oper.wp
    go_simp
    exact Stepped.at rfl hd (Below.refl _ _) (FY_mk (.ex (tFun sF [(Tm.mk k n s us), tNum (lo + pp)])) rfl ⟨x, er, rfl, HX.out⟩)
  · intro ac wz hb hd hs ho hp
    refine ⟨rfl, ?_⟩
    obtain ⟨x, er, h0, hx⟩ := yex hp 11 47 (t := (tFun sF [(Tm.mk k n s us), tNum (lo + pp)])) (by kernel_rfl) rfl
    have HX := Lib.hid hx
    clear hx
    unfold Oper.wp
    go_simp
    exact Stepped.at rfl hd (Below.refl _ _) (FY_mk (.exv (tFun sF [(Tm.mk k n s us), tNum (lo + pp)])) rfl ⟨er, HX.out⟩)
  · intro ac wz hb hd hs ho hp
    refine ⟨rfl, ?_⟩
    obtain ⟨x, er, h0, hx⟩ := yex hp 11 47 (t := (tFun sF [(Tm.mk k n s us), tNum (lo + pp)])) (by kernel_rfl) rfl
    have HX := Lib.hid hx
    clear hx
    unfold Oper.wp
    go_simp
    exact Stepped.at rfl hd (Below.refl _ _) (FY_mk (.exe (tFun sF [(Tm.mk k n s us), tNum (lo + pp)])) rfl ⟨x, er, rfl, HX.out⟩)
  · intro ac wz hb hd hs ho hp
    refine ⟨rfl, ?_⟩
    obtain ⟨er, hx⟩ := yexv hp 12 59 (t := (tFun sF [(Tm.mk k n s us), tNum (lo + pp)])) (by kernel_rfl) rfl
    obtain ⟨v, hv⟩ : ∃ v, ac.tmps.getD 59 undef = v := ⟨_, rfl⟩
    rw [hv] at hx
    have HX := Lib.hid hx
    clear hx
    unfold Oper.wp
    go_simp
    exact Stepped.at rfl hd (Below.refl _ _) (FY_mk (.exv (tFun sF [(Tm.mk k n s us), tNum (lo + pp)])) rfl ⟨er, HX.out⟩)
  · intro ac wz hb hd hs ho hp
    refine ⟨rfl, ?_⟩
    obtain ⟨x, er, h0, hx⟩ := yexe hp 13 60 (t := (tFun sF [(Tm.mk k n s us), tNum (lo + pp)])) (by kernel_rfl) rfl
    have HX := Lib.hid hx
    clear hx
    unfold Oper.wp
    go_simp
    exact Stepped.at rfl hd (Below.refl _ _) (FY_mk (.exe (tFun sF [(Tm.mk k n s us), tNum (lo + pp)])) rfl ⟨x, er, rfl, HX.out⟩)
  intro ac W5 hJ
  obtain ⟨e12, g0⟩ := FY_at (.exv (tFun sF [(Tm.mk k n s us), tNum (lo + pp)])) rfl (hJ.at_end 14 12 (by kernel_rfl))
  obtain ⟨y13, er13, f13, g1⟩ := FY_at (.exe (tFun sF [(Tm.mk k n s us), tNum (lo + pp)])) rfl (hJ.at_end 15 13 (by kernel_rfl))
  obtain ⟨v12, f12⟩ : ∃ v, ac.tmps.getD 12 undef = v := ⟨_, rfl⟩
  rw [f12] at g0
  obtain rfl := g0.err g1
  have X12 := Lib.hid g0
  clear g0 g1
  obtain ⟨u48, f48⟩ : ∃ u, ac.tmps.getD 48 undef = u := ⟨_, rfl⟩
  obtain ⟨u49, f49⟩ : ∃ u, ac.tmps.getD 49 undef = u := ⟨_, rfl⟩
  obtain ⟨u50, f50⟩ : ∃ u, ac.tmps.getD 50 undef = u := ⟨_, rfl⟩
  obtain ⟨u51, f51⟩ : ∃ u, ac.tmps.getD 51 undef = u := ⟨_, rfl⟩
  obtain ⟨u52, f52⟩ : ∃ u, ac.tmps.getD 52 undef = u := ⟨_, rfl⟩
  obtain ⟨u53, f53⟩ : ∃ u, ac.tmps.getD 53 undef = u := ⟨_, rfl⟩
  obtain ⟨u54, f54⟩ : ∃ u, ac.tmps.getD 54 undef = u := ⟨_, rfl⟩
  obtain ⟨u55, f55⟩ : ∃ u, ac.tmps.getD 55 undef = u := ⟨_, rfl⟩
  obtain ⟨u56, f56⟩ : ∃ u, ac.tmps.getD 56 undef = u := ⟨_, rfl⟩
  obtain ⟨u57, f57⟩ : ∃ u, ac.tmps.getD 57 undef = u := ⟨_, rfl⟩
  obtain ⟨u58, f58⟩ : ∃ u, ac.tmps.getD 58 undef = u := ⟨_, rfl⟩
  obtain ⟨u47, f47⟩ : ∃ u, ac.tmps.getD 47 undef = u := ⟨_, rfl⟩
  obtain ⟨u59, f59⟩ : ∃ u, ac.tmps.getD 59 undef = u := ⟨_, rfl⟩
  obtain ⟨u60, f60⟩ : ∃ u, ac.tmps.getD 60 undef = u := ⟨_, rfl⟩
  have b := hJ.below
  obtain ⟨TT, DD⟩ := ac
  obtain rfl : DD = [] := hJ.defers
  have hE := slots_merge [false, false, false, false, false, false, false, false, false, false, false, false, true, true, false, false, false, false, false, false, false, false, false, false, false, false, false, false, false, false, false, false, false, false, false, false, false, false, false, false, false, false, false, false, false, false, false, true, true, true, true, true, true, true, true, true, true, true, true, true, true, false, false, false, false, false, false, false, false, false, false, false, false, false, false, false, false, false, false, false, false, false, false, false, false, false, false, false, false, false, false, false, false, false, false, false, false, false, false, false, false, false, false, false, false, false, false, false, false, false, false, false, false, false, false, false, false, false, false, false, false, false, false, false, false, false, false, false, false, false, false, false, false, false, false, false, false] 137 hJ.tmps rfl (by kernel_rfl) hJ.outer
  simp only [mergeFrom, Nat.zero_add, Nat.reduceAdd, f48, f49, f50, f51, f52, f53, f54, f55, f56, f57, f58, f47, f59, f60, f12, f13] at hE
  clear hJ f48 f49 f50 f51 f52 f53 f54 f55 f56 f57 f58 f47 f59 f60 f12 f13
  subst hE
  have q := Lib.hid (Q1.out.grow b)
  clear Q1
  have Q1 := q
  clear q
  have q := Lib.hid (HT.out.grow b)
  clear HT
  have HT := q
  clear q
  have q := Lib.hid (X10.out.grow b)
  clear X10
  have X10 := q
  clear q
  have q := Lib.hid (BW.out.trans (b.mono BW.out.size))
  clear b BW
  have BW := q
  clear q
  refine HK.out _ _ ?_
  clear HK
  refine wp_seq_k fun K hK => ?_
  have HK := Lib.hid hK
  clear hK
  refine wp_region_growB (by kernel_rfl) (FY [.tm (Tm.mk k n s us), .val (.int .i64 lo), .tm (tNum (lo)), .val (.int .i64 lo), .val (.int .i64 (lo - 1)), .val (.int .i64 m), .val (.int .i64 (lo - 1 - m)), .tm (tNum (lo - 1 - m)), .tm (tSpan (tNum lo) (tNum (lo - 1 - m))), .sl [(Tm.mk k n s us), (tSpan (tNum lo) (tNum (lo - 1 - m)))], .tm (tFun sF [(Tm.mk k n s us), tSpan (tNum lo) (tNum (lo - 1 - m))]), .ex (tFun sF [(Tm.mk k n s us), tSpan (tNum lo) (tNum (lo - 1 - m))]), .ex (tFun sF [(Tm.mk k n s us), tSpan (tNum lo) (tNum (lo - 1 - m))]), .exv (tFun sF [(Tm.mk k n s us), tSpan (tNum lo) (tNum (lo - 1 - m))]), .exe (tFun sF [(Tm.mk k n s us), tSpan (tNum lo) (tNum (lo - 1 - m))]), .exv (tFun sF [(Tm.mk k n s us), tSpan (tNum lo) (tNum (lo - 1 - m))]), .exe (tFun sF [(Tm.mk k n s us), tSpan (tNum lo) (tNum (lo - 1 - m))])]) (FY_grow _) (by kernel_rfl) (steps_all ⟨?_, ?_, ?_, ?_, ?_, ?_, ?_, ?_, ?_, ?_, ?_, ?_, ?_, ?_, ?_, ?_, ?_, trivial⟩) ?_
  · intro ac wz hb hd hs ho hp
    refine ⟨rfl, ?_⟩
    have h4 : ac.tmps.getD 4 undef = .pointer (some ⟨n1, 0, none⟩) := (ho 4 (by kernel_rfl)).trans rfl
    have hx := Q1.out.grow hb
    have x0 := cells_at hx 0 _ rfl
    have x1 := cells_at hx 1 _ rfl
    have x2 := cells_at hx 2 _ rfl
    have x3 := cells_at hx 3 _ rfl
    unfold Oper.wp
    go_simp
    exact Stepped.at rfl hd (Below.refl _ _) (FY_mk (.tm (Tm.mk k n s us)) rfl (HT.out.grow hb))
  · intro ac wz hb hd hs ho hp
    refine ⟨rfl, ?_⟩
    have h1 : ac.tmps.getD 1 undef = .int .i64 lo := (ho 1 (by kernel_rfl)).trans rfl
    unfold Oper.wp
    go_simp
    exact Stepped.at rfl hd (Below.refl _ _) (FY_mk (.val (.int .i64 lo)) rfl rfl)
  · intro ac wz hb hd hs ho hp
    refine ⟨rfl, ?_⟩
    have h63 : ac.tmps.getD 63 undef = .int .i64 (lo) := yval hp 1 63 (by kernel_rfl) rfl
    unfold Oper.wp
    go_simp
    refine (num_any (lo) (i64_mk (by omega)) _).mono ?_
    rintro e w2 ⟨v, rfl, h1, h2⟩
    exact Stepped.at rfl hd h2 (FY_mk (.tm (tNum (lo))) rfl h1)
  · intro ac wz hb hd hs ho hp
    refine ⟨rfl, ?_⟩
    have h1 : ac.tmps.getD 1 undef = .int .i64 lo := (ho 1 (by kernel_rfl)).trans rfl
    unfold Oper.wp
    go_simp
    exact Stepped.at rfl hd (Below.refl _ _) (FY_mk (.val (.int .i64 lo)) rfl rfl)
  · intro ac wz hb hd hs ho hp
    refine ⟨rfl, ?_⟩
    have h65 : ac.tmps.getD 65 undef = .int .i64 lo := yval hp 3 65 (by kernel_rfl) rfl
    unfold Oper.wp
    go_simp
    exact Stepped.at rfl hd (Below.refl _ _) (FY_mk (.val (.int .i64 (lo - 1))) rfl (by first | rfl | simp))
  · intro ac wz hb hd hs ho hp
    refine ⟨rfl, ?_⟩
    have h9 : ac.tmps.getD 9 undef = .int .i64 m := (ho 9 (by kernel_rfl)).trans rfl
    unfold Oper.wp
    go_simp
    exact Stepped.at rfl hd (Below.refl _ _) (FY_mk (.val (.int .i64 m)) rfl rfl)
  · intro ac wz hb hd hs ho hp
    refine ⟨rfl, ?_⟩
    have h66 : ac.tmps.getD 66 undef = .int .i64 (lo - 1) := yval hp 4 66 (by kernel_rfl) rfl
    have h67 : ac.tmps.getD 67 undef = .int .i64 m := yval hp 5 67 (by kernel_rfl) rfl
    unfold Oper.wp
    go_simp
    exact Stepped.at rfl hd (Below.refl _ _) (FY_mk (.val (.int .i64 (lo - 1 - m))) rfl (by first | rfl | simp))
  · intro ac wz hb hd hs ho hp
    refine ⟨rfl, ?_⟩
    have h68 : ac.tmps.getD 68 undef = .int .i64 (lo - 1 - m) := yval hp 6 68 (by kernel_rfl) rfl
    unfold Oper.wp
    go_simp
    refine (num_any (lo - 1 - m) (i64_mk (by omega)) _).mono ?_
    rintro e w2 ⟨v, rfl, h1, h2⟩
    exact Stepped.at rfl hd h2 (FY_mk (.tm (tNum (lo - 1 - m))) rfl h1)
  · intro ac wz hb hd hs ho hp
    refine ⟨rfl, ?_⟩
    have q1 := ytm hp 2 64 (t := (tNum lo)) (by kernel_rfl) rfl
    obtain ⟨aq1, cq1, eq1⟩ := agg_shape q1
    rw [eq1] at q1
    have q2 := ytm hp 7 69 (t := (tNum (lo - 1 - m))) (by kernel_rfl) rfl
    obtain ⟨aq2, cq2, eq2⟩ := agg_shape q2
    rw [eq2] at q2
    have HS := Lib.hid (lspan_any wz q1 q2)
    clear q1 q2
    unfold Oper.wp
    go_simp
    refine HS.out.mono ?_
    rintro e w2 ⟨v, rfl, h1, h2⟩
    exact Stepped.at rfl hd h2 (FY_mk (.tm (tSpan (tNum lo) (tNum (lo - 1 - m)))) rfl h1)
  · intro ac wz hb hd hs ho hp
    refine ⟨rfl, ?_⟩
    have q1 := ytm hp 0 62 (t := (Tm.mk k n s us)) (by kernel_rfl) rfl
    obtain ⟨aq1, cq1, eq1⟩ := agg_shape q1
    rw [eq1] at q1
    have q2 := ytm hp 8 70 (t := (tSpan (tNum lo) (tNum (lo - 1 - m)))) (by kernel_rfl) rfl
    obtain ⟨aq2, cq2, eq2⟩ := agg_shape q2
    rw [eq2] at q2
    have s1 := qslot_of (hs.trans (show _ = 137 from rfl)) (by decide) eq1
    have s2 := qslot_of (hs.trans (show _ = 137 from rfl)) (by decide) eq2
    have HS := Lib.hid (slV_two q1 q2)
    clear q1 q2
    unfold Oper.wp
    go_simp
    exact Stepped.at (v := .slice (some ⟨wz.heap.size, 0, none⟩) 2 2) rfl hd ((Below.refl _ _).alloc (Nat.le_refl _) _) (FY_mk (.sl [(Tm.mk k n s us), (tSpan (tNum lo) (tNum (lo - 1 - m)))]) rfl HS.out)
  · intro ac wz hb hd hs ho hp
    refine ⟨rfl, ?_⟩
    have q := ysl hp 9 71 (ts := [(Tm.mk k n s us), (tSpan (tNum lo) (tNum (lo - 1 - m)))]) (by kernel_rfl) rfl
    obtain ⟨v, hv⟩ : ∃ v, ac.tmps.getD 71 undef = v := ⟨_, rfl⟩
    rw [hv] at q
    have HQ := Lib.hid q
    clear q
    unfold Oper.wp
    go_simp
    refine (fun_any sF (by unfold maxLen; decide) _ _ _ HQ.out).mono ?_
    rintro e w2 ⟨v, rfl, h1, h2⟩
    exact Stepped.at rfl hd h2 (FY_mk (.tm (tFun sF [(Tm.mk k n s us), tSpan (tNum lo) (tNum (lo - 1 - m))])) rfl h1)
  · intro ac wz hb hd hs ho hp
    refine ⟨rfl, ?_⟩
    have q := ytm hp 10 72 (t := (tFun sF [(Tm.mk k n s us), tSpan (tNum lo) (tNum (lo - 1 - m))])) (by kernel_rfl) rfl
    obtain ⟨v, hv⟩ : ∃ v, ac.tmps.getD 72 undef = v := ⟨_, rfl⟩
    rw [hv] at q
    have HQ := Lib.hid (expand_gives (tFun sF [(Tm.mk k n s us), tSpan (tNum lo) (tNum (lo - 1 - m))]) v wz q (by have := HDP.out; simp only [tFun, tSpan, tNum, Tm.depth, Tm.depthL] at this ⊢; omega))
    clear q
    unfold Oper.wp
    go_simp
    refine HQ.out.mono ?_
    rintro e w2 ⟨x, er, rfl, h1, h2⟩
    exact Stepped.at rfl hd h2 (FY_mk (.ex (tFun sF [(Tm.mk k n s us), tSpan (tNum lo) (tNum (lo - 1 - m))])) rfl ⟨x, er, rfl, h1⟩)
  · intro ac wz hb hd hs ho hp
    refine ⟨rfl, ?_⟩
    obtain ⟨x, er, h0, hx⟩ := yex hp 11 73 (t := (tFun sF [(Tm.mk k n s us), tSpan (tNum lo) (tNum (lo - 1 - m))])) (by kernel_rfl) rfl
    have HX := Lib.hid hx
    clear hx
    unfold Oper.wp
    go_simp
    exact Stepped.at rfl hd (Below.refl _ _) (FY_mk (.ex (tFun sF [(Tm.mk k n s us), tSpan (tNum lo) (tNum (lo - 1 - m))])) rfl ⟨x, er, rfl, HX.out⟩)
  · intro ac wz hb hd hs ho hp
    refine ⟨rfl, ?_⟩
    obtain ⟨x, er, h0, hx⟩ := yex hp 12 61 (t := (tFun sF [(Tm.mk k n s us), tSpan (tNum lo) (tNum (lo - 1 - m))])) (by kernel_rfl) rfl
    have HX := Lib.hid hx
    clear hx
    unfold Oper.wp
    go_simp
    exact Stepped.at rfl hd (Below.refl _ _) (FY_mk (.exv (tFun sF [(Tm.mk k n s us), tSpan (tNum lo) (tNum (lo - 1 - m))])) rfl ⟨er, HX.out⟩)
  · intro ac wz hb hd hs ho hp
    refine ⟨rfl, ?_⟩
    obtain ⟨x, er, h0, hx⟩ := yex hp 12 61 (t := (tFun sF [(Tm.mk k n s us), tSpan (tNum lo) (tNum (lo - 1 - m))])) (by kernel_rfl) rfl
    have HX := Lib.hid hx
    clear hx
    unfold Oper.wp
    go_simp
    exact Stepped.at rfl hd (Below.refl _ _) (FY_mk (.exe (tFun sF [(Tm.mk k n s us), tSpan (tNum lo) (tNum (lo - 1 - m))])) rfl ⟨x, er, rfl, HX.out⟩)
  · intro ac wz hb hd hs ho hp
    refine ⟨rfl, ?_⟩
    obtain ⟨er, hx⟩ := yexv hp 13 74 (t := (tFun sF [(Tm.mk k n s us), tSpan (tNum lo) (tNum (lo - 1 - m))])) (by kernel_rfl) rfl
    obtain ⟨v, hv⟩ : ∃ v, ac.tmps.getD 74 undef = v := ⟨_, rfl⟩
    rw [hv] at hx
    have HX := Lib.hid hx
    clear hx
    unfold Oper.wp
    go_simp
    exact Stepped.at rfl hd (Below.refl _ _) (FY_mk (.exv (tFun sF [(Tm.mk k n s us), tSpan (tNum lo) (tNum (lo - 1 - m))])) rfl ⟨er, HX.out⟩)
  · intro ac wz hb hd hs ho hp
    refine ⟨rfl, ?_⟩
    obtain ⟨x, er, h0, hx⟩ := yexe hp 14 75 (t := (tFun sF [(Tm.mk k n s us), tSpan (tNum lo) (tNum (lo - 1 - m))])) (by kernel_rfl) rfl
    have HX := Lib.hid hx
    clear hx
    unfold Oper.wp
    go_simp
    exact Stepped.at rfl hd (Below.refl _ _) (FY_mk (.exe (tFun sF [(Tm.mk k n s us), tSpan (tNum lo) (tNum (lo - 1 - m))])) rfl ⟨x, er, rfl, HX.out⟩)
  intro ac W6 hJ
  obtain ⟨e14, g0⟩ := FY_at (.exv (tFun sF [(Tm.mk k n s us), tSpan (tNum lo) (tNum (lo - 1 - m))])) rfl (hJ.at_end 15 14 (by kernel_rfl))
  obtain ⟨y15, er15, f15, g1⟩ := FY_at (.exe (tFun sF [(Tm.mk k n s us), tSpan (tNum lo) (tNum (lo - 1 - m))])) rfl (hJ.at_end 16 15 (by kernel_rfl))
  obtain ⟨v14, f14⟩ : ∃ v, ac.tmps.getD 14 undef = v := ⟨_, rfl⟩
  rw [f14] at g0
  obtain rfl := g0.err g1
  have X14 := Lib.hid g0
  clear g0 g1
  obtain ⟨u62, f62⟩ : ∃ u, ac.tmps.getD 62 undef = u := ⟨_, rfl⟩
  obtain ⟨u63, f63⟩ : ∃ u, ac.tmps.getD 63 undef = u := ⟨_, rfl⟩
  obtain ⟨u64, f64⟩ : ∃ u, ac.tmps.getD 64 undef = u := ⟨_, rfl⟩
  obtain ⟨u65, f65⟩ : ∃ u, ac.tmps.getD 65 undef = u := ⟨_, rfl⟩
  obtain ⟨u66, f66⟩ : ∃ u, ac.tmps.getD 66 undef = u := ⟨_, rfl⟩
  obtain ⟨u67, f67⟩ : ∃ u, ac.tmps.getD 67 undef = u := ⟨_, rfl⟩
  obtain ⟨u68, f68⟩ : ∃ u, ac.tmps.getD 68 undef = u := ⟨_, rfl⟩
  obtain ⟨u69, f69⟩ : ∃ u, ac.tmps.getD 69 undef = u := ⟨_, rfl⟩
  obtain ⟨u70, f70⟩ : ∃ u, ac.tmps.getD 70 undef = u := ⟨_, rfl⟩
  obtain ⟨u71, f71⟩ : ∃ u, ac.tmps.getD 71 undef = u := ⟨_, rfl⟩
  obtain ⟨u72, f72⟩ : ∃ u, ac.tmps.getD 72 undef = u := ⟨_, rfl⟩
  obtain ⟨u73, f73⟩ : ∃ u, ac.tmps.getD 73 undef = u := ⟨_, rfl⟩
  obtain ⟨u61, f61⟩ : ∃ u, ac.tmps.getD 61 undef = u := ⟨_, rfl⟩
  obtain ⟨u74, f74⟩ : ∃ u, ac.tmps.getD 74 undef = u := ⟨_, rfl⟩
  obtain ⟨u75, f75⟩ : ∃ u, ac.tmps.getD 75 undef = u := ⟨_, rfl⟩
  have b := hJ.below
  obtain ⟨TT, DD⟩ := ac
  obtain rfl : DD = [] := hJ.defers
  have hE := slots_merge [false, false, false, false, false, false, false, false, false, false, false, false, false, false, true, true, false, false, false, false, false, false, false, false, false, false, false, false, false, false, false, false, false, false, false, false, false, false, false, false, false, false, false, false, false, false, false, false, false, false, false, false, false, false, false, false, false, false, false, false, false, true, true, true, true, true, true, true, true, true, true, true, true, true, true, true, false, false, false, false, false, false, false, false, false, false, false, false, false, false, false, false, false, false, false, false, false, false, false, false, false, false, false, false, false, false, false, false, false, false, false, false, false, false, false, false, false, false, false, false, false, false, false, false, false, false, false, false, false, false, false, false, false, false, false, false, false] 137 hJ.tmps rfl (by kernel_rfl) hJ.outer
  simp only [mergeFrom, Nat.zero_add, Nat.reduceAdd, f62, f63, f64, f65, f66, f67, f68, f69, f70, f71, f72, f73, f61, f74, f75, f14, f15] at hE
  clear hJ f62 f63 f64 f65 f66 f67 f68 f69 f70 f71 f72 f73 f61 f74 f75 f14 f15
  subst hE
  have q := Lib.hid (Q1.out.grow b)
  clear Q1
  have Q1 := q
  clear q
  have q := Lib.hid (HT.out.grow b)
  clear HT
  have HT := q
  clear q
  have q := Lib.hid (X10.out.grow b)
  clear X10
  have X10 := q
  clear q
  have q := Lib.hid (X12.out.grow b)
  clear X12
  have X12 := q
  clear q
  have q := Lib.hid (BW.out.trans (b.mono BW.out.size))
  clear b BW
  have BW := q
  clear q
  refine HK.out _ _ ?_
  clear HK
  obtain ⟨mn, hmn⟩ : ∃ mn : Nat, m = (mn : Int) := ⟨m.toNat, by omega⟩
  have hS1 : ((spanL lo (lo + m)).map numT).length = mn + 1 := by rw [hmn]; exact span_len lo mn
  have hS3 : (spanL lo (lo - 1 - m)).map numT = [] := by rw [hmn]; exact span_none lo mn
  have sp1 := span_ok (x := lo) (y := lo + m) (outB_false.2 (by omega)) (outB_false.2 (by omega))
  have sp3 := span_ok (x := lo) (y := lo - 1 - m) (outB_false.2 (by omega)) (outB_false.2 (by omega))
  have sp2 := numT_ok (z := lo + pp) (p := 2) (by omega) (outB_false.2 (by omega))
  have hv1 : (((tFun sF [(Tm.mk k n s us), tSpan (tNum lo) (tNum (lo + m))])).validB && ((tFun sF [(Tm.mk k n s us), tSpan (tNum lo) (tNum (lo + m))])).groundB) = argOk (Tm.mk k n s us) := fun_ok sp1.1 sp1.2
  have hv2 : (((tFun sF [(Tm.mk k n s us), tNum (lo + pp)])).validB && ((tFun sF [(Tm.mk k n s us), tNum (lo + pp)])).groundB) = argOk (Tm.mk k n s us) := fun_ok sp2.1 sp2.2
  have hv3 : (((tFun sF [(Tm.mk k n s us), tSpan (tNum lo) (tNum (lo - 1 - m))])).validB && ((tFun sF [(Tm.mk k n s us), tSpan (tNum lo) (tNum (lo - 1 - m))])).groundB) = argOk (Tm.mk k n s us) := fun_ok sp3.1 sp3.2
  have he1 := exp_fun (t := (Tm.mk k n s us)) (exp_span (x := lo) (y := lo + m) (by omega))
  have he2 := exp_fun (t := (Tm.mk k n s us)) (exp_num (lo + pp))
  have he3 := exp_fun (t := (Tm.mk k n s us)) (exp_span (x := lo) (y := lo - 1 - m) (by omega))
  have hmem : numT (lo + pp) ∈ (spanL lo (lo + m)).map numT := by rw [hmn]; exact span_mem (by omega) (by omega)
  rw [hS1] at he1
  rw [hS3] at he3
  clear sp1 sp2 sp3
  cases hok : argOk (Tm.mk k n s us) with
  | false =>
    rw [hok] at hv1 hv2 hv3
    obtain ⟨rfl, rfl⟩ := X10.out.bad (by unfold exR; rw [hv1]; rfl)
    obtain ⟨rfl, rfl⟩ := X12.out.bad (by unfold exR; rw [hv2]; rfl)
    obtain ⟨rfl, rfl⟩ := X14.out.bad (by unfold exR; rw [hv3]; rfl)
    clear X10 X12 X14 hv1 hv2 hv3 he1 he2 he3 hmem hS1 hS3 hok
    go_wp2
    go_ret
    exact ⟨rfl, by first | exact BW.out | (rw [← hn1]; exact BW.out)⟩
  | true =>
    rw [hok] at hv1 hv2 hv3
    cases hE : (Tm.mk k n s us).exp with
    | none =>
      rw [hE] at he1 he2 he3
      obtain ⟨rfl, rfl⟩ := X10.out.many (by unfold exR; rw [hv1, he1]; rfl)
      obtain ⟨rfl, rfl⟩ := X12.out.many (by unfold exR; rw [hv2, he2]; rfl)
      obtain ⟨rfl, rfl⟩ := X14.out.many (by unfold exR; rw [hv3, he3]; rfl)
      clear X10 X12 X14 hv1 hv2 hv3 he1 he2 he3 hmem hS1 hS3 hok hE
      go_wp2
      go_ret
      exact ⟨rfl, by first | exact BW.out | (rw [← hn1]; exact BW.out)⟩
    | some l =>
      have hll := exp_le hE
      rw [hE] at he1 he2 he3
      simp only [Option.bind_some, List.length_cons, List.length_nil, Nat.zero_add, Nat.mul_one, Nat.mul_zero, hll, if_true, Nat.zero_le] at he1 he2 he3
      obtain ⟨rfl, R12⟩ := X12.out.row (ts := pairs l [numT (lo + pp)]) (by unfold exR; rw [hv2, he2]; rfl)
      obtain ⟨rfl, R14⟩ := X14.out.row (ts := pairs l []) (by unfold exR; rw [hv3, he3]; rfl)
      obtain ⟨a14, c14, h14, _⟩ := R14
      rw [pairs_length, List.length_nil, Nat.mul_zero] at h14
      subst h14
      obtain ⟨ts2, hts2⟩ : ∃ ts, pairs l [numT (lo + pp)] = ts := ⟨_, rfl⟩
      have hl2 : ts2.length = l.length := by rw [← hts2, pairs_length]; simp
      rw [hts2] at R12
      obtain ⟨a12, c12, rfl, _, hr12⟩ := R12
      clear X12 X14
      by_cases hbig : l.length * (mn + 1) ≤ 1000
      case neg =>
        rw [if_neg hbig] at he1
        obtain ⟨rfl, rfl⟩ := X10.out.many (by unfold exR; rw [hv1, he1]; rfl)
        clear X10 hv1 hv2 hv3 he1 he2 he3 hmem hS1 hS3 hok hE hr12 hts2 hbig hll hl2
        go_wp2
        go_ret
        exact ⟨rfl, by first | exact BW.out | (rw [← hn1]; exact BW.out)⟩
      case pos =>
        rw [if_pos hbig] at he1
        have hsub : ts2.Sublist (pairs l ((spanL lo (lo + m)).map numT)) := by rw [← hts2]; exact pairs_sub hmem l
        obtain ⟨ts1, hts1⟩ : ∃ ts, pairs l ((spanL lo (lo + m)).map numT) = ts := ⟨_, rfl⟩
        have hl1 : ts1.length = l.length * (mn + 1) := by rw [← hts1, pairs_length, hS1]
        rw [hts1] at he1 hsub
        obtain ⟨rfl, R10⟩ := X10.out.row (ts := ts1) (by unfold exR; rw [hv1, he1]; rfl)
        obtain ⟨a10, c10, rfl, _, hr10⟩ := R10
        have HR10 := Lib.hid hr10
        have HR12 := Lib.hid hr12
        have HSUB := Lib.hid hsub
        have hmul : IntKind.i64.wrap ((ts2.length : Int) * (m + 1)) = (ts1.length : Int) := by
          have h1 : (ts2.length : Int) * (m + 1) = (ts1.length : Int) := by rw [hmn, hl1, hl2]; simp
          rw [h1]
          exact IntWalk.i64_in _ (by omega)
        have hsm : ts1.length ≤ 1000 ∧ ts2.length ≤ 1000 := by omega
        clear X10 hv1 hv2 hv3 he1 he2 he3 hmem hS1 hS3 hok hE hts2 hts1 hbig hll hl1 hl2 hsub hr10 hr12 hmn
        go_wp2_with fail
        go_loopw [16, 17] (fun kk i wr => ∃ j q : Nat, j ≤ ts1.length ∧ q ≤ ts2.length ∧ kk = .int .i64 q ∧ i = .int .i64 j ∧ (ts2.drop q).Sublist (ts1.drop j) ∧ Below W6.heap.size W6 wr) (fun _ i _ => ts1.length - (intOf i).toNat)
        case atStart => exact ⟨0, 0, by omega, by omega, by go_num, by go_num, HSUB.out, Below.refl _ _⟩
        case round =>
          obtain ⟨j, q, hj, hq, rfl, rfl, hsb, hBr⟩ := hrel
          have HSB := Lib.hid hsb
          have HBr := Lib.hid hBr
          have BWr := Lib.hid (BW.out.trans (hBr.mono BW.out.size))
          clear hsb hBr
          have i1 : (0 : Int) ≤ (j : Int) := by omega
          have i2 : (0 : Int) ≤ (q : Int) := by omega
          by_cases hjl : j < ts1.length
          case neg =>
            have i3 : ¬ (j : Int) < (ts1.length : Int) := by omega
            have hqe : q = ts2.length := sub_end hq (by have := HSB.out; rwa [show j = ts1.length by omega] at this)
            have i4 : ((q : Int) == (ts2.length : Int)) = true := by rw [hqe]; simp
            have i5 : (q : Int) = (ts2.length : Int) := by rw [hqe]
            go_wp2
            go_ret
            exact ⟨by simp, by first | exact BWr.out | (rw [← hn1]; exact BWr.out)⟩
          case pos =>
            have i3 : (j : Int) < (ts1.length : Int) := by omega
            by_cases hql : q < ts2.length
            case neg =>
              have hqe : q = ts2.length := by omega
              have i4 : ((q : Int) == (ts2.length : Int)) = true := by rw [hqe]; simp
              have i5 : (q : Int) = (ts2.length : Int) := by rw [hqe]
              have i6 : ¬ (q : Int) < (ts2.length : Int) := by omega
              go_wp2
              go_ret
              exact ⟨by simp, by first | exact BWr.out | (rw [← hn1]; exact BWr.out)⟩
            case pos =>
              have i4 : (q : Int) < (ts2.length : Int) := by omega
              obtain ⟨b1, o1, rfl, hb1, hI1⟩ := HR10.out (by intro e; rw [e] at hjl; simp at hjl)
              obtain ⟨b2, o2, rfl, hb2, hI2⟩ := HR12.out (by intro e; rw [e] at hql; simp at hql)
              obtain ⟨p0, p1, p2, p3, s0, s1, s2, s3, hP⟩ := hI1.at j hjl
              obtain ⟨r0, r1, r2, r3, z0, z1, z2, z3, hR⟩ := hI2.at q hql
              have G0 := Lib.hid (fun (wx : World) (hx : Below wr.heap.size wr wx) => show wx.cell? ⟨b1, o1 + j * 4, none⟩ = some p0 ∧ wx.cell? ⟨b1, o1 + j * 4 + 1, none⟩ = some p1 ∧ wx.cell? ⟨b1, o1 + j * 4 + 2, none⟩ = some p2 ∧ wx.cell? ⟨b1, o1 + j * 4 + 3, none⟩ = some p3 from
                have h := HBr.out.trans (hx.mono HBr.out.size)
                ⟨(h.cell (p := ⟨b1, o1 + j * 4, none⟩) hb1).trans s0, (h.cell (p := ⟨b1, o1 + j * 4 + 1, none⟩) hb1).trans s1, (h.cell (p := ⟨b1, o1 + j * 4 + 2, none⟩) hb1).trans s2, (h.cell (p := ⟨b1, o1 + j * 4 + 3, none⟩) hb1).trans s3⟩)
              have G1 := Lib.hid (fun (wx : World) (hx : Below wr.heap.size wr wx) => show wx.cell? ⟨b2, o2 + q * 4, none⟩ = some r0 ∧ wx.cell? ⟨b2, o2 + q * 4 + 1, none⟩ = some r1 ∧ wx.cell? ⟨b2, o2 + q * 4 + 2, none⟩ = some r2 ∧ wx.cell? ⟨b2, o2 + q * 4 + 3, none⟩ = some r3 from
                have h := HBr.out.trans (hx.mono HBr.out.size)
                ⟨(h.cell (p := ⟨b2, o2 + q * 4, none⟩) hb2).trans z0, (h.cell (p := ⟨b2, o2 + q * 4 + 1, none⟩) hb2).trans z1, (h.cell (p := ⟨b2, o2 + q * 4 + 2, none⟩) hb2).trans z2, (h.cell (p := ⟨b2, o2 + q * 4 + 3, none⟩) hb2).trans z3⟩)
              have hP' := (hP.below HBr.out).mono HBr.out.size
              have hR' := (hR.below HBr.out).mono HBr.out.size
              obtain ⟨EB, hEB⟩ : ∃ x, (Tm.cmp ts1[j] ts2[q] == 0) = x := ⟨_, rfl⟩
              have EQ := Lib.hid (show Evr wr 21 #[.agg #[p0, p1, p2, p3], .agg #[r0, r1, r2, r3]] (.bool EB) from hEB ▸ equal_evr hP' hR')
              have HEB := Lib.hid (show (EB = true → ts1[j] = ts2[q]) ∧ (EB = false → ts1[j] ≠ ts2[q]) by
                have hz := cmp_zero _ _ (good_of hP') (good_of hR')
                rw [← hEB]
                constructor
                · intro h; exact hz.1 (by simpa using h)
                · intro h he
                  have := hz.2 he
                  rw [this] at h
                  cases h)
              clear hI1 hI2 s0 s1 s2 s3 z0 z1 z2 z3 hP hR hP' hR' hEB
              go_wp2_with fail
              refine wp_region_grow_or (by kernel_rfl) (FU (bwDescs19 ts1 ts2 b1 o1 c10 b2 o2 c12 j q p0 p1 p2 p3 r0 r1 r2 r3 EB)) (FU_grow _) (by kernel_rfl) (steps_or ?_) ?_
              · refine ⟨?_, ?_, ?_, ?_, ?_, ?_, ?_, ?_, ?_, trivial⟩
                · intro ac wz hb hd hs ho hp
                  refine Or.inl ⟨rfl, ?_⟩
                  have h10 : ac.tmps.getD 10 undef = .slice (some ⟨b1, o1, none⟩) ts1.length c10 := (ho 10 (by kernel_rfl)).trans rfl
                  unfold Oper.wp
                  go_simp
                  exact Stepped.at rfl hd (Below.refl _ _) (FU_mk (.val (.slice (some ⟨b1, o1, none⟩) ts1.length c10)) rfl (by show (_ : Value) = _; first | rfl | (first | rfl | simp) | (simp [*])))
                · intro ac wz hb hd hs ho hp
                  refine Or.inl ⟨rfl, ?_⟩
                  have h17 : ac.tmps.getD 17 undef = .int .i64 ((j : Int)) := (ho 17 (by kernel_rfl)).trans rfl
                  unfold Oper.wp
                  go_simp
                  exact Stepped.at rfl hd (Below.refl _ _) (FU_mk (.val (.int .i64 ((j : Int)))) rfl (by show (_ : Value) = _; first | rfl | (first | rfl | simp) | (simp [*])))
                · intro ac wz hb hd hs ho hp
                  refine Or.inl ⟨rfl, ?_⟩
                  have h122 : ac.tmps.getD 122 undef = .slice (some ⟨b1, o1, none⟩) ts1.length c10 := uval_at hp 0 122 (by kernel_rfl) rfl
                  have h123 : ac.tmps.getD 123 undef = .int .i64 ((j : Int)) := uval_at hp 1 123 (by kernel_rfl) rfl
                  unfold Oper.wp
                  go_simp
                  exact Stepped.at rfl hd (Below.refl _ _) (FU_mk (.val (.pointer (some ⟨b1, o1 + j * 4, none⟩))) rfl (by show (_ : Value) = _; first | rfl | (first | rfl | simp) | (simp [*])))
                · intro ac wz hb hd hs ho hp
                  refine Or.inl ⟨rfl, ?_⟩
                  have h124 : ac.tmps.getD 124 undef = .pointer (some ⟨b1, o1 + j * 4, none⟩) := uval_at hp 2 124 (by kernel_rfl) rfl
                  obtain ⟨x0, x1, x2, x3⟩ := G0.out wz hb
                  unfold Oper.wp
                  go_simp
                  exact Stepped.at rfl hd (Below.refl _ _) (FU_mk (.val (.agg #[p0, p1, p2, p3])) rfl (by show (_ : Value) = _; first | rfl | (first | rfl | simp) | (simp [*])))
                · intro ac wz hb hd hs ho hp
                  refine Or.inl ⟨rfl, ?_⟩
                  have h12 : ac.tmps.getD 12 undef = .slice (some ⟨b2, o2, none⟩) ts2.length c12 := (ho 12 (by kernel_rfl)).trans rfl
                  unfold Oper.wp
                  go_simp
                  exact Stepped.at rfl hd (Below.refl _ _) (FU_mk (.val (.slice (some ⟨b2, o2, none⟩) ts2.length c12)) rfl (by show (_ : Value) = _; first | rfl | (first | rfl | simp) | (simp [*])))
                · intro ac wz hb hd hs ho hp
                  refine Or.inl ⟨rfl, ?_⟩
                  have h16 : ac.tmps.getD 16 undef = .int .i64 ((q : Int)) := (ho 16 (by kernel_rfl)).trans rfl
                  unfold Oper.wp
                  go_simp
                  exact Stepped.at rfl hd (Below.refl _ _) (FU_mk (.val (.int .i64 ((q : Int)))) rfl (by show (_ : Value) = _; first | rfl | (first | rfl | simp) | (simp [*])))
                · intro ac wz hb hd hs ho hp
                  refine Or.inl ⟨rfl, ?_⟩
                  have h126 : ac.tmps.getD 126 undef = .slice (some ⟨b2, o2, none⟩) ts2.length c12 := uval_at hp 4 126 (by kernel_rfl) rfl
                  have h127 : ac.tmps.getD 127 undef = .int .i64 ((q : Int)) := uval_at hp 5 127 (by kernel_rfl) rfl
                  unfold Oper.wp
                  go_simp
                  exact Stepped.at rfl hd (Below.refl _ _) (FU_mk (.val (.pointer (some ⟨b2, o2 + q * 4, none⟩))) rfl (by show (_ : Value) = _; first | rfl | (first | rfl | simp) | (simp [*])))
                · intro ac wz hb hd hs ho hp
                  refine Or.inl ⟨rfl, ?_⟩
                  have h128 : ac.tmps.getD 128 undef = .pointer (some ⟨b2, o2 + q * 4, none⟩) := uval_at hp 6 128 (by kernel_rfl) rfl
                  obtain ⟨x0, x1, x2, x3⟩ := G1.out wz hb
                  unfold Oper.wp
                  go_simp
                  exact Stepped.at rfl hd (Below.refl _ _) (FU_mk (.val (.agg #[r0, r1, r2, r3])) rfl (by show (_ : Value) = _; first | rfl | (first | rfl | simp) | (simp [*])))
                · intro ac wz hb hd hs ho hp
                  refine Or.inl ⟨rfl, ?_⟩
                  have h125 : ac.tmps.getD 125 undef = .agg #[p0, p1, p2, p3] := uval_at hp 3 125 (by kernel_rfl) rfl
                  have h129 : ac.tmps.getD 129 undef = .agg #[r0, r1, r2, r3] := uval_at hp 7 129 (by kernel_rfl) rfl
                  unfold Oper.wp
                  go_simp
                  refine (EQ.out _ hb).mono ?_
                  rintro e2 w2 ⟨rfl, hx2⟩
                  exact Stepped.at rfl hd (hx2) (FU_mk (.val (.bool (EB))) rfl (by show (_ : Value) = _; first | rfl | simp))
              intro ac V3 hJ
              have f130 : ac.tmps.getD 130 undef = .bool EB := FU_at (.val (.bool EB)) rfl (hJ.at_end 8 130 (by kernel_rfl))
              obtain ⟨u122, f122⟩ : ∃ u, ac.tmps.getD 122 undef = u := ⟨_, rfl⟩
              obtain ⟨u123, f123⟩ : ∃ u, ac.tmps.getD 123 undef = u := ⟨_, rfl⟩
              obtain ⟨u124, f124⟩ : ∃ u, ac.tmps.getD 124 undef = u := ⟨_, rfl⟩
              obtain ⟨u125, f125⟩ : ∃ u, ac.tmps.getD 125 undef = u := ⟨_, rfl⟩
              obtain ⟨u126, f126⟩ : ∃ u, ac.tmps.getD 126 undef = u := ⟨_, rfl⟩
              obtain ⟨u127, f127⟩ : ∃ u, ac.tmps.getD 127 undef = u := ⟨_, rfl⟩
              obtain ⟨u128, f128⟩ : ∃ u, ac.tmps.getD 128 undef = u := ⟨_, rfl⟩
              obtain ⟨u129, f129⟩ : ∃ u, ac.tmps.getD 129 undef = u := ⟨_, rfl⟩
              have HBn := Lib.hid (HBr.out.trans (hJ.below.mono HBr.out.size))
              obtain ⟨TT, DD⟩ := ac
              obtain rfl : DD = [] := hJ.defers
              have hE := slots_merge [false, false, false, false, false, false, false, false, false, false, false, false, false, false, false, false, false, false, false, false, false, false, false, false, false, false, false, false, false, false, false, false, false, false, false, false, false, false, false, false, false, false, false, false, false, false, false, false, false, false, false, false, false, false, false, false, false, false, false, false, false, false, false, false, false, false, false, false, false, false, false, false, false, false, false, false, false, false, false, false, false, false, false, false, false, false, false, false, false, false, false, false, false, false, false, false, false, false, false, false, false, false, false, false, false, false, false, false, false, false, false, false, false, false, false, false, false, false, false, false, false, false, true, true, true, true, true, true, true, true, true, false, false, false, false, false, false] 137 hJ.tmps rfl (by kernel_rfl) hJ.outer
              simp only [mergeFrom, Nat.zero_add, Nat.reduceAdd, f122, f123, f124, f125, f126, f127, f128, f129, f130] at hE
              clear hJ f122 f123 f124 f125 f126 f127 f128 f129 f130 G0 G1 EQ
              subst hE
              cases EB with
              | true =>
                have HN := Lib.hid (sub_hit hjl hql HSB.out (HEB.out.1 rfl))
                clear HEB
                go_wp2
                go_roundw
                case rel => exact ⟨j + 1, q + 1, by omega, by omega, by go_num, by go_num, HN.out, HBn.out⟩
                case measure => simp [intOf]; omega
              | false =>
                have HN := Lib.hid (sub_miss hjl hql HSB.out (HEB.out.2 rfl))
                clear HEB
                go_wp2
                go_roundw
                case rel => exact ⟨j + 1, q, by omega, by omega, by go_num, by go_num, HN.out, HBn.out⟩
                case measure => simp [intOf]; omega

open Go.ChangeShapes Go.WideShapes Go.ChangeAt Go.RowKit

set_option maxRecDepth 100000 in
theorem replaces_contract (H : Type) (enc : TypeId × Value → H) (W : World) (base : Nat) (args : Array Value) (ds gs : List (DataW H)) (before : List MemPlace)
    (hval : ∀ (j : Nat) t v, Tryz.f7.params[j]? = some t → args[j]? = some v → Value.okWide Tryz.prog W .any base t v)
    (hW : DataW.Whole enc Tryz.prog Tryz.f7.params.toList Rows.arithReplacesSpec.vars false W args.toList ds gs before) :
    Calls Tryz.prog 7 args W fun e W' => ∃ v, e = .returned v ∧ Rows.arithReplacesSpec.post enc Tryz.prog Tryz.f7 false true false false W args v W' := by
  have hW' := hW
  obtain ⟨p, q, hA0, hV, rfl, hfz, hnd⟩ := hW
  have hA : DataW.TrodAll enc Tryz.prog W 0 (fun _ => true) true Tryz.f7.params.toList args.toList ds p := hA0
  rw [Tryz.params7] at hA hval
  obtain ⟨v0, vs0, d0, ds0, p0, q0, hargs, rfl, rfl, h0, r0⟩ := trodAll_cons hA
  obtain ⟨v1, vs1, d1, ds1, p1, q1, rfl, rfl, rfl, h1, r1⟩ := trodAll_cons r0
  obtain ⟨v2, vs2, d2, ds2, p2, q2, rfl, rfl, rfl, h2, r2⟩ := trodAll_cons r1
  obtain ⟨v3, vs3, d3, ds3, p3, q3, rfl, rfl, rfl, h3, r3⟩ := trodAll_cons r2
  obtain ⟨rfl, rfl, rfl⟩ := trodAll_nil r3
  obtain rfl : args = #[v0, v1, v2, v3] := by cases args; simp_all
  obtain ⟨rfl, rfl⟩ := trodVars_none hV
  obtain ⟨x0, y0, z0, u0, t0, rfl, i0⟩ := open_term (hval 0 32 v0 rfl rfl) h0
  obtain ⟨n1, rfl, rfl, rfl, w1⟩ := open_int Tryz.underlying3 (hval 1 3 v1 rfl rfl) h1
  obtain ⟨n2, rfl, rfl, rfl, w2⟩ := open_int Tryz.underlying3 (hval 2 3 v2 rfl rfl) h2
  obtain ⟨n3, rfl, rfl, rfl, w3⟩ := open_int Tryz.underlying3 (hval 3 3 v3 rfl rfl) h3
  clear hA0
  refine (match t0, i0 with
    | .mk k n s us, i0 => replaces_any k n s us _ _ _ _ n1 n2 n3 W i0 awake_any).mono fun e W' ⟨he, hg⟩ => ?_
  subst he
  refine ⟨_, rfl, post_of_below (pa := p0 ++ ([] ++ ([] ++ ([] ++ [])))) (pv := []) hW' (fun _ _ _ => trodAll_cons_mk (shut_bool Tryz.underlying4 _) trodAll_mk0) (fun sp hsp => ?_) (fun _ _ => rfl) rfl
    hg (ok_one (by kernel_rfl) rfl (okWide_bool_mk Tryz.underlying4 _))⟩
  rw [Tryz.params7]
  exact trodAll_cons_mk (shut_term h0 hg fun p hp => hsp p (by simp [hp])) (trodAll_cons_mk (shut_int Tryz.underlying3 w1) (trodAll_cons_mk (shut_int Tryz.underlying3 w2) (trodAll_cons_mk (shut_int Tryz.underlying3 w3) trodAll_mk0)))

set_option maxRecDepth 100000 in
theorem replaces_laid (os : Os) : laidMet Tryz.prog Rows.arithReplacesRow.laid ((World.laidAll Tryz.prog os Rows.arithReplacesRow.laid).forCall (fun _ _ => 0) ⟨#[], #[.agg #[.int .u8 0, .int .i64 0, .string ⟨#[]⟩, .slice none 0 0], .int .i64 0, .int .i64 0, .int .i64 0], []⟩).memory :=
  laidMet_laidAll _ (by kernel_rfl) (by kernel_rfl)
theorem replaces_reads (os : Os) {H : Type} (enc : TypeId × Value → H) : ∃ places, DataW.whole enc Tryz.prog ((World.laidAll Tryz.prog os Rows.arithReplacesRow.laid).forCall (fun _ _ => 0) ⟨#[], #[.agg #[.int .u8 0, .int .i64 0, .string ⟨#[]⟩, .slice none 0 0], .int .i64 0, .int .i64 0, .int .i64 0], []⟩).memory Tryz.f7.params.toList Rows.arithReplacesSpec.vars false #[Value.agg #[.int .u8 0, .int .i64 0, .string ⟨#[]⟩, .slice none 0 0], .int .i64 0, .int .i64 0, .int .i64 0].toList 8 = some ([.agg [.lit (.int .u8 0), .lit (.int .i64 0), .lit (.string []), .nil], .lit (.int .i64 0), .lit (.int .i64 0), .lit (.int .i64 0)], [], places) :=
  ⟨[], by kernel_rfl⟩

set_option maxRecDepth 100000 in
theorem replaces_lifted (os : Os) (started : os.Started) (H : Type) (enc : TypeId × Value → H) (F : Stop.Interp) :
    ReturnsInHanded {} Tryz.checked os 7 .any ((OpenSpec.ofChange Rows.arithReplacesSpec).preRow enc Tryz.prog Tryz.f7 Rows.arithReplacesRow.domain false Rows.arithReplacesRow.laid) (((OpenSpec.ofChange Rows.arithReplacesSpec).at F).post enc Tryz.prog Tryz.f7 false true false false) := by
  obtain ⟨places, hx⟩ := replaces_reads os enc
  refine returnsInHanded_of_row (C := Tryz.checked) (s := OpenSpec.ofChange Rows.arithReplacesSpec) laid_own started (by kernel_rfl) Tryz.func7
    (witness_row_at (enc := enc) (C := Tryz.checked) false (World.laidAll Tryz.prog os Rows.arithReplacesRow.laid) #[.agg #[.int .u8 0, .int .i64 0, .string ⟨#[]⟩, .slice none 0 0], .int .i64 0, .int .i64 0, .int .i64 0] (World.laidAll_os _ _ _) (by kernel_rfl) (by kernel_rfl) (by kernel_rfl)
      (OpenSpec.preRow_of_cond 8 hx (by kernel_rfl) (fun k hk => by cases hk) (by kernel_rfl) (by rw [MakeChecks.laidMetH_plain _ _ _ (by kernel_rfl)]; exact replaces_laid os))) ?_
  intro W base args ds gs before hval hW _ _ _ _ _ _
  exact replaces_contract H enc W base args ds gs before hval hW

theorem replaces_said : Rows.ArithReplacesSaid :=
  OpenClaim.holds_of_cond 7 Tryz.f7 rfl rfl rfl rfl rfl rfl rfl ⟨rfl, rfl, rfl, rfl, rfl⟩ rfl rfl rfl rfl rfl (by kernel_rfl) Tryz.func7 (by kernel_rfl)
    (of_decide_eq_true (by kernel_rfl)) (by unfold Func.isWrapper; first | (rw [if_pos (by decide +kernel)]; kernel_rfl) | (rw [if_neg (by decide +kernel)]; exact ⟨rfl, rfl⟩))
    (fun os started H enc _ F => by rw [OpenClaim.pre_eq_preRow]; exact replaces_lifted os started H enc F)

theorem replaces_plain (f : FuncId) (fn : Func) (hf : Tryz.pinned.checked.prog.funcNamed "ostler/ostlerlaw02.ArithReplaces" = some f) (hfn : Tryz.pinned.checked.prog.funcs[f]? = some fn) :
    false = Tryz.pinned.checked.prog.looks [] ∧ ∀ (j : Nat) t, fn.params[j]? = some t → Tryz.pinned.checked.prog.wantsStandIn t = false := by
  obtain rfl : f = 7 := Option.some.inj ((show Tryz.prog.funcNamed "ostler/ostlerlaw02.ArithReplaces" = some 7 by kernel_rfl).symm.trans hf) |>.symm
  obtain rfl : fn = Tryz.f7 := (Option.some.inj (Tryz.func7.symm.trans hfn)).symm
  refine ⟨by kernel_rfl, fun j t ht => ?_⟩
  rw [Tryz.params7] at ht
  have hm : t = 32 ∨ t = 3 := by
    have := Array.mem_of_getElem? ht
    simp at this
    omega
  rcases hm with rfl | rfl
  · exact (show Tryz.prog.wantsStandIn 32 = false by kernel_rfl)
  · exact (show Tryz.prog.wantsStandIn 3 = false by kernel_rfl)

/-- The card. -/
theorem replaces_card : Rows.ArithReplacesCardSaid :=
  Claim7.holds_tied_plain_at .later [] _ _ _ _ replaces_said (fun _ h => by cases h) (by kernel_rfl) (fun _ h => by cases h) arithReplaces_row_tie rfl ⟨rfl, rfl⟩ (by kernel_rfl) rfl replaces_plain (by kernel_rfl)
end Go.Proofs.YteaiocdopjekhaaGreatDoor
