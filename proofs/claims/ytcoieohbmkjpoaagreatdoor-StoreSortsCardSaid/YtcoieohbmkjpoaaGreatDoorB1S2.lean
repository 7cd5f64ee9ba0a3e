/- StoreSorts: its walk. -/
import Derived.Test.YtcoieohbmkjpoaaGreatDoorB1S1
import Derived.IntWalk
namespace Go.Proofs.YtcoieohbmkjpoaaGreatDoor
open Go.RowKit Go.Shelf Go.Maps
attribute [local go_sem] Oper.semAt_some

set_option maxRecDepth 100000 in
set_option maxHeartbeats 8000000 in
theorem sorts_any (L : List Ato) (lv : Value) (x y z : Ato) (a0 a1 b0 b1 c0 c1 : Value) (w : World) (hT : Tab10 w) (hL : RdL w lv L)
    (hx : AtS (fun b => b < w.heap.size) w a0 a1 x) (hy : AtS (fun b => b < w.heap.size) w b0 b1 y) (hz : AtS (fun b => b < w.heap.size) w c0 c1 z) :
    Calls Tryz.prog 5 #[lv, .agg #[a0, a1], .agg #[b0, b1], .agg #[c0, c1]] w fun e w' => e = .returned (.bool true) ∧ Below w.heap.size w w' := by
  obtain ⟨p, us⟩ := x
  obtain ⟨q, vs⟩ := y
  obtain ⟨r, ts⟩ := z
  obtain ⟨ax, cx, rfl, rfl⟩ := hx.shape
  obtain ⟨ay, cy, rfl, rfl⟩ := hy.shape
  obtain ⟨az, cz, rfl, rfl⟩ := hz.shape
  obtain ⟨al, cl, rfl, hl0, hrd0⟩ := hL
  have hL : RdL w (.slice al L.length cl) L := ⟨al, cl, rfl, hl0, hrd0⟩
  change Calls Tryz.prog 5 #[.slice al L.length cl, .agg #[.string p, .slice ax us.length cx], .agg #[.string q, .slice ay vs.length cy], .agg #[.string r, .slice az ts.length cz]] w _
  obtain ⟨W, hW⟩ : ∃ W, ((w.alloc (.cells #[.string p, .slice ax us.length cx] 24)).alloc (.cells #[.string q, .slice ay vs.length cy] 24)).alloc (.cells #[.string r, .slice az ts.length cz] 24) = W := ⟨_, rfl⟩
  obtain ⟨hb, k1, k2, k3⟩ := alloc3 w (.cells #[.string p, .slice ax us.length cx] 24) (.cells #[.string q, .slice ay vs.length cy] 24) (.cells #[.string r, .slice az ts.length cz] 24)
  rw [hW] at hb k1 k2 k3
  have HX := Lib.hid (hx.below hb)
  have HY := Lib.hid (hy.below hb)
  have HZ := Lib.hid (hz.below hb)
  have HL := Lib.hid (hL.below hb)
  have HT := Lib.hid (hT.below hb)
  have HB := Lib.hid hb
  obtain ⟨m, hm⟩ : ∃ m, w.heap.size = m := ⟨_, rfl⟩
  have hll : L.length ≤ 9223372036854775807 := by unfold maxLen at hl0; exact hl0
  have HK := Lib.hid (And.intro (hm ▸ k1) (And.intro (hm ▸ k2) (hm ▸ k3)))
  clear hx hy hz hL hT hb k1 k2 k3 hl0 hrd0
  go_enter Tryz.func5, Tryz.ntmps5
  refine wp_seq_k fun K0 hK0 => ?_
  have HK0 := Lib.hid hK0
  clear hK0
  go_wp2_with fail
  try rw [hW]
  try simp only [hm]
  clear hW
  refine HK0.out _ _ ?_
  clear HK0
  refine wp_seq_k fun K1 hK1 => ?_
  have HK1 := Lib.hid hK1
  clear hK1
  have HAW := Lib.hid (awake11_any W HT.out)
  go_wp2_with (go_at_call 9; refine HAW.out.mono ?_; clear HAW; rintro e w1 ⟨rfl, hb1⟩; have HB1 := Lib.hid hb1; clear hb1)
  refine HK1.out _ _ ?_
  clear HK1
  refine wp_seq_k fun K2 hK2 => ?_
  have HK2 := Lib.hid hK2
  clear hK2
  have HG1 := Lib.hid (great_any L _ w1 (HL.out.below HB1.out))
  go_wp2_with (go_at_call 8; refine HG1.out.mono ?_)
  clear HG1
  rintro e w2 ⟨b, rfl, hbf, hb2⟩
  have HB2 := Lib.hid (below_then HB1.out hb2)
  have HBF := Lib.hid hbf
  clear hbf hb2 HB1
  cases b with
  | true =>
    go_wp2
    go_ret
    exact ⟨rfl, below_then HB.out HB2.out⟩
  | false =>
  have mv : ∀ {k : Nat} {o : Obj}, W.heap[k]? = some o → w2.heap[k]? = some o := fun h => (HB2.out.block _ (Array.getElem?_eq_some_iff.1 h).1).trans h
  have d10 := cells_at (mv HK.out.1) 0 _ rfl
  have d11 := cells_at (mv HK.out.1) 1 _ rfl
  have d20 := cells_at (mv HK.out.2.1) 0 _ rfl
  have d21 := cells_at (mv HK.out.2.1) 1 _ rfl
  have d30 := cells_at (mv HK.out.2.2) 0 _ rfl
  have d31 := cells_at (mv HK.out.2.2) 1 _ rfl
  clear mv
  obtain ⟨W3, hW3⟩ : ∃ X, w2.alloc (.cells #[.string p, .slice ax us.length cx, .string q, .slice ay vs.length cy, .string r, .slice az ts.length cz] 24) = X := ⟨_, rfl⟩
  have hb3 : Below w2.heap.size w2 W3 := by rw [← hW3]; exact (Below.refl _ _).alloc (Nat.le_refl _) _
  have hr3 : W3.heap[w2.heap.size]? = some (.cells #[.string p, .slice ax us.length cx, .string q, .slice ay vs.length cy, .string r, .slice az ts.length cz] 24 (0, 0)) := by rw [← hW3]; exact World.alloc_heap_new _ _
  have hb03 := below_then HB2.out hb3
  have hlst : LstR W3 (.slice (some ⟨w2.heap.size, 0, none⟩) 3 3) [(p, us), (q, vs), (r, ts)] := ⟨_, ⟨rfl, Or.inr ⟨w2.heap.size, 3, _, rfl, Nat.zero_le _, hr3, Nat.le_refl 3, by unfold maxLen; omega, rfl, rfl⟩⟩,
    ⟨_, _, _, rfl, HX.out.below hb03, _, _, _, rfl, HY.out.below hb03, _, _, _, rfl, HZ.out.below hb03, rfl⟩⟩
  have HG2 := Lib.hid (great_any [(p, us), (q, vs), (r, ts)] _ W3 hlst.rd)
  have HB3 := Lib.hid hb03
  clear hb3 hr3 hb03 hlst
  go_wp2_with (go_at_call 8; refine HG2.out.mono ?_)
  clear HG2 hW3 d10 d11 d20 d21 d30 d31
  rintro e w4 ⟨b, rfl, hbf, hb4⟩
  have HB4 := Lib.hid (below_then HB3.out hb4)
  have HBG := Lib.hid hbf
  clear hbf hb4 HB3 HB2
  cases b with
  | true =>
    go_wp2
    go_ret
    exact ⟨rfl, below_then HB.out HB4.out⟩
  | false =>
  go_wp2_with fail
  refine HK2.out _ _ ?_
  clear HK2
  have HN := Lib.hid (new_any w4 (HT.out.below HB4.out))
  have hgl := HBF.out (by first | rfl | trivial)
  have HC := Lib.hid hgl.2
  have HGL := Lib.hid (HL.out.goodT)
  clear HBF hgl
  go_wp2_with (go_at_call 14; refine HN.out.mono ?_; rintro e w5 ⟨S, lab, rfl, hI, hb5⟩; have HI5 := Lib.hid hI; have HB5 := Lib.hid hb5; clear hI hb5 HN)
  go_loopw [10] (fun i wr => ∃ (j : Nat) (lab : Lab) (A : List Ato), j ≤ L.length ∧ i = .int .i64 j ∧ StI wr w4.heap.size lab S A ∧ Hid (A.Nodup ∧ ∀ y ∈ A, y ∈ L) ∧ Below w4.heap.size w4 wr) (fun i _ => L.length - (intOf i).toNat)
  case atStart => exact ⟨0, lab, [], by omega, by go_num, HI5.out, Lib.hid ⟨List.nodup_nil, fun _ h => by cases h⟩, HB5.out⟩
  case round =>
    obtain ⟨j, lab2, A, hj, rfl, hI, hA, hBr⟩ := hrel
    clear HI5 HB5
    by_cases hlt : j < L.length
    · obtain ⟨a2, c2, e, _, hrd⟩ := HL.out.below HB4.out
      simp only [Value.slice.injEq] at e
      obtain ⟨rfl, _, rfl⟩ := e
      obtain ⟨g, off, v0, v1, rfl, g0, g1, hxx⟩ := hrd j hlt
      clear hrd
      replace g0 := (hBr.cell (p := ⟨g, off + j * 2, none⟩) (block_lt_of_cell g0)).trans g0
      replace g1 := (hBr.cell (p := ⟨g, off + j * 2 + 1, none⟩) (block_lt_of_cell g1)).trans g1
      have HADD := Lib.hid (add_low w4.heap.size S lab2 A L[j] v0 v1 wr hI hBr.size (hxx.same (fun _ h => h) (fun b h => hBr.block b h)) (by have := HC.out _ (List.getElem_mem hlt); omega))
      have HA2 := Lib.hid (show (addL A L[j]).Nodup ∧ ∀ y ∈ addL A L[j], y ∈ L from ⟨addL_nodup hA.out.1, fun y hy => (addL_mem hy).elim (hA.out.2 y) (fun e => by rw [e]; exact List.getElem_mem _)⟩)
      have HBR := Lib.hid hBr
      obtain ⟨X, hX⟩ : ∃ X, L[j] = X := ⟨_, rfl⟩
      rw [hX] at HADD HA2
      obtain ⟨⟨r1, r2⟩, hr⟩ : ∃ r, addR A X = r := ⟨_, rfl⟩
      rw [hr] at HADD
      clear hr
      have i1 : (0 : Int) ≤ (j : Int) := by omega
      have i2 : (j : Int) < (L.length : Int) := by omega
      clear hxx hI hA hBr hX
      go_wp2_with (go_at_call 15; refine HADD.out.mono ?_; rintro e w6 ⟨rfl, lab3, hI3, _, _, hs3⟩; have HI3 := Lib.hid hI3; have HB6 := Lib.hid (HBR.out.trans hs3); clear hI3 hs3)
      go_roundw
      case rel => exact ⟨j + 1, lab3, addL A X, by omega, by go_num, HI3.out, HA2, HB6.out⟩
      case measure => simp [intOf]; omega
    · obtain rfl : j = L.length := by omega
      have HI := Lib.hid hI
      have HBR := Lib.hid (below_then HB4.out hBr)
      have HGA := Lib.hid (show ∀ y ∈ A, Tm.GoodL y.2 from fun y hy => HGL.out y (hA.out.2 y hy))
      have HCA := Lib.hid (show ∀ y ∈ A, cntA y ≤ 1000000 from fun y hy => by have := HC.out y (hA.out.2 y hy); omega)
      have HND := Lib.hid hA.out.1
      have HSR := Lib.hid (sorted_row hI HGA.out)
      clear hI hA hBr HL HC HGL hlt hj
      go_wp2_with (go_at_call 25; refine HSR.out.mono ?_; rintro e w7 ⟨v, is, rfl, hres, hso, hb7⟩; have HRES := Lib.hid hres.read; have HSO := Lib.hid hso; have HI7 := Lib.hid (HI.out.below hb7); have HB7 := Lib.hid (below_then HBR.out hb7); clear hres hso hb7 HSR HI HBR)
      obtain ⟨P, hP⟩ : ∃ P, pickL A is = P := ⟨_, rfl⟩
      have hP1 : ∀ i (h : i < P.length), P[i] ∈ A := by subst hP; exact fun i h => sortedN_mem HSO.out i h
      have hP2 : ∀ i (h : i + 1 < P.length), cmpA (P[i]'(by omega)) P[i + 1] = -1 := by subst hP; exact fun i h => sortedN_next HSO.out HND.out HGA.out i h
      have hP3 : P.length = A.length := by rw [← hP, pickL_len, sortedN_len HSO.out]
      rw [hP] at HRES
      have HP1 := Lib.hid hP1
      have HP2 := Lib.hid hP2
      have HP3 := Lib.hid hP3
      obtain ⟨ga, gc, rfl⟩ := HRES.out.shape
      have hpl := HRES.out.len
      clear hP hP1 hP2 hP3 HSO HND HGA
      go_loopw [12] (fun i wr => ∃ (j : Nat), j ≤ P.length ∧ i = .int .i64 j ∧ Below w7.heap.size w7 wr) (fun i _ => P.length - (intOf i).toNat)
      case atStart => exact ⟨0, by omega, by go_num, Below.refl _ _⟩
      case round =>
        obtain ⟨j, hj, rfl, hBr⟩ := hrel
        by_cases hlt : j < P.length
        · obtain ⟨g, cc, v0, v1, e, g0, g1, hxx⟩ := (HRES.out.below hBr).at2 j hlt
          simp only [Value.slice.injEq] at e
          obtain ⟨rfl, _, rfl⟩ := e
          have G0 := Lib.hid g0
          have G1 := Lib.hid g1
          have HXX := Lib.hid hxx
          have HMB := Lib.hid (HP1.out j hlt)
          have HI8 := Lib.hid (HI7.out.below hBr)
          have HBR := Lib.hid hBr
          have i1 : (0 : Int) ≤ (j : Int) := by omega
          have i2 : (j : Int) < (P.length : Int) := by omega
          rcases Nat.eq_zero_or_pos j with hj0 | hj0
          · have i3 : ¬ 0 < j := by omega
            clear g0 g1 hxx hBr hj0
            go_wp2_with fail
            have hst := @FL_grow [fV (.pointer (some ⟨S, 0, none⟩)), fV (.slice (some ⟨g, 0, none⟩) P.length gc), fV (.int .i64 j), fV (.pointer (some ⟨g, j * 2, none⟩)), fV (.agg #[v0, v1]), fV (.bool true), fV (.bool false), fV (.bool false), fV (.int .i64 j), fV (.bool false), fV (.bool false), fAny, fAny, fAny, fAny, fAny, fAny, fAny, fAny, fAny, fAny, fAny, fV (.bool false), fV (.bool false)] (by
              intro F hF
              simp only [List.mem_cons, List.not_mem_nil, or_false] at hF
              rcases hF with rfl | rfl | rfl | rfl | rfl | rfl | rfl | rfl | rfl | rfl | rfl | rfl | rfl | rfl | rfl | rfl | rfl | rfl | rfl | rfl | rfl | rfl | rfl | rfl <;> first | exact fV_stays _ | exact fAny_stays)
            refine wp_region_grow_orB (by kernel_rfl) (FL [fV (.pointer (some ⟨S, 0, none⟩)), fV (.slice (some ⟨g, 0, none⟩) P.length gc), fV (.int .i64 j), fV (.pointer (some ⟨g, j * 2, none⟩)), fV (.agg #[v0, v1]), fV (.bool true), fV (.bool false), fV (.bool false), fV (.int .i64 j), fV (.bool false), fV (.bool false), fAny, fAny, fAny, fAny, fAny, fAny, fAny, fAny, fAny, fAny, fAny, fV (.bool false), fV (.bool false)]) hst (by kernel_rfl) (steps_or ?_) ?_
            · refine ⟨?_, ?_, ?_, ?_, ?_, ?_, ?_, ?_, ?_, ?_, ?_, ?_, ?_, ?_, ?_, ?_, ?_, ?_, ?_, ?_, ?_, ?_, ?_, ?_, trivial⟩
              · intro a wx hb hd hs ho hp
                refine Or.inl ⟨rfl, ?_⟩
                have h9 : a.tmps.getD 9 undef = .pointer (some ⟨S, 0, none⟩) := (ho 9 (by kernel_rfl)).trans rfl
                unfold Oper.wp
                go_simp
                exact Stepped.at (v := .pointer (some ⟨S, 0, none⟩)) (by first | rfl | simp) hd (Below.refl _ _) rfl
              · intro a wx hb hd hs ho hp
                refine Or.inl ⟨rfl, ?_⟩
                have h11 : a.tmps.getD 11 undef = .slice (some ⟨g, 0, none⟩) P.length gc := (ho 11 (by kernel_rfl)).trans rfl
                unfold Oper.wp
                go_simp
                exact Stepped.at (v := .slice (some ⟨g, 0, none⟩) P.length gc) (by first | rfl | simp) hd (Below.refl _ _) rfl
              · intro a wx hb hd hs ho hp
                refine Or.inl ⟨rfl, ?_⟩
                have h12 : a.tmps.getD 12 undef = .int .i64 j := (ho 12 (by kernel_rfl)).trans rfl
                unfold Oper.wp
                go_simp
                exact Stepped.at (v := .int .i64 j) (by first | rfl | simp) hd (Below.refl _ _) rfl
              · intro a wx hb hd hs ho hp
                refine Or.inl ⟨rfl, ?_⟩
                have h49 : a.tmps.getD 49 undef = .slice (some ⟨g, 0, none⟩) P.length gc := facts_at hp 1 49 (by kernel_rfl)
                have h50 : a.tmps.getD 50 undef = .int .i64 j := facts_at hp 2 50 (by kernel_rfl)
                unfold Oper.wp
                go_simp
                exact Stepped.at (v := .pointer (some ⟨g, j * 2, none⟩)) (by first | rfl | simp) hd (Below.refl _ _) rfl
              · intro a wx hb hd hs ho hp
                refine Or.inl ⟨rfl, ?_⟩
                have h51 : a.tmps.getD 51 undef = .pointer (some ⟨g, j * 2, none⟩) := facts_at hp 3 51 (by kernel_rfl)
                have s51 := qslot_of (hs.trans (rfl : _ = 112)) (by decide) h51
                have x0 := (hb.cell (block_lt_of_cell G0.out)).trans G0.out
                have x1 := (hb.cell (block_lt_of_cell G1.out)).trans G1.out
                unfold Oper.wp
                go_simp
                exact Stepped.at (v := .agg #[v0, v1]) (by first | rfl | simp) hd (Below.refl _ _) rfl
              · intro a wx hb hd hs ho hp
                refine Or.inl ⟨rfl, ?_⟩
                have h48 : a.tmps.getD 48 undef = .pointer (some ⟨S, 0, none⟩) := facts_at hp 0 48 (by kernel_rfl)
                have h52 : a.tmps.getD 52 undef = .agg #[v0, v1] := facts_at hp 4 52 (by kernel_rfl)
                have hx := has_q w4.heap.size S lab2 A P[j] v0 v1 true wx (HI8.out.below hb) (HXX.out.below hb) (HCA.out _ HMB.out) ⟨fun _ => HMB.out, fun _ => rfl⟩
                unfold Oper.wp
                go_simp
                refine (hx).mono ?_
                rintro e w9 ⟨rfl, hb9⟩
                exact Stepped.at (v := .bool true) rfl hd (hb9) rfl
              · intro a wx hb hd hs ho hp
                refine Or.inl ⟨rfl, ?_⟩
                have h53 : a.tmps.getD 53 undef = .bool true := facts_at hp 5 53 (by kernel_rfl)
                unfold Oper.wp
                go_simp
                exact Stepped.at (v := .bool false) (by first | rfl | simp) hd (Below.refl _ _) rfl
              · intro a wx hb hd hs ho hp
                refine Or.inl ⟨rfl, ?_⟩
                have h54 : a.tmps.getD 54 undef = .bool false := facts_at hp 6 54 (by kernel_rfl)
                unfold Oper.wp
                go_simp
                exact Stepped.at (v := .bool false) (by first | rfl | simp) hd (Below.refl _ _) rfl
              · intro a wx hb hd hs ho hp
                refine Or.inl ⟨wanted_yes rfl (yielded_at (k := 7) (d := 55) (by kernel_rfl) (show a.tmps.getD 55 undef = _ from facts_at hp 7 55 (by kernel_rfl))), ?_⟩
                have h12 : a.tmps.getD 12 undef = .int .i64 j := (ho 12 (by kernel_rfl)).trans rfl
                unfold Oper.wp
                go_simp
                exact Stepped.at (v := .int .i64 j) (by first | rfl | simp) hd (Below.refl _ _) rfl
              · intro a wx hb hd hs ho hp
                refine Or.inl ⟨wanted_yes rfl (yielded_at (k := 7) (d := 55) (by kernel_rfl) (show a.tmps.getD 55 undef = _ from facts_at hp 7 55 (by kernel_rfl))), ?_⟩
                have h56 : a.tmps.getD 56 undef = .int .i64 j := facts_at hp 8 56 (by kernel_rfl)
                unfold Oper.wp
                go_simp
                exact Stepped.at (v := .bool false) (by first | rfl | simp) hd (Below.refl _ _) rfl
              · intro a wx hb hd hs ho hp
                refine Or.inl ⟨wanted_yes rfl (yielded_at (k := 7) (d := 55) (by kernel_rfl) (show a.tmps.getD 55 undef = _ from facts_at hp 7 55 (by kernel_rfl))), ?_⟩
                have h57 : a.tmps.getD 57 undef = .bool false := facts_at hp 9 57 (by kernel_rfl)
                unfold Oper.wp
                go_simp
                exact Stepped.at (v := .bool false) (by first | rfl | simp) hd (Below.refl _ _) rfl
              · intro a wx hb hd hs ho hp
                exact Or.inr ⟨wanted_no rfl (yielded_at (k := 10) (d := 58) (by kernel_rfl) (show a.tmps.getD 58 undef = _ from facts_at hp 10 58 (by kernel_rfl))), fun _ _ => trivial⟩
              · intro a wx hb hd hs ho hp
                exact Or.inr ⟨wanted_no rfl (yielded_at (k := 10) (d := 58) (by kernel_rfl) (show a.tmps.getD 58 undef = _ from facts_at hp 10 58 (by kernel_rfl))), fun _ _ => trivial⟩
              · intro a wx hb hd hs ho hp
                exact Or.inr ⟨wanted_no rfl (yielded_at (k := 10) (d := 58) (by kernel_rfl) (show a.tmps.getD 58 undef = _ from facts_at hp 10 58 (by kernel_rfl))), fun _ _ => trivial⟩
              · intro a wx hb hd hs ho hp
                exact Or.inr ⟨wanted_no rfl (yielded_at (k := 10) (d := 58) (by kernel_rfl) (show a.tmps.getD 58 undef = _ from facts_at hp 10 58 (by kernel_rfl))), fun _ _ => trivial⟩
              · intro a wx hb hd hs ho hp
                exact Or.inr ⟨wanted_no rfl (yielded_at (k := 10) (d := 58) (by kernel_rfl) (show a.tmps.getD 58 undef = _ from facts_at hp 10 58 (by kernel_rfl))), fun _ _ => trivial⟩
              · intro a wx hb hd hs ho hp
                exact Or.inr ⟨wanted_no rfl (yielded_at (k := 10) (d := 58) (by kernel_rfl) (show a.tmps.getD 58 undef = _ from facts_at hp 10 58 (by kernel_rfl))), fun _ _ => trivial⟩
              · intro a wx hb hd hs ho hp
                exact Or.inr ⟨wanted_no rfl (yielded_at (k := 10) (d := 58) (by kernel_rfl) (show a.tmps.getD 58 undef = _ from facts_at hp 10 58 (by kernel_rfl))), fun _ _ => trivial⟩
              · intro a wx hb hd hs ho hp
                exact Or.inr ⟨wanted_no rfl (yielded_at (k := 10) (d := 58) (by kernel_rfl) (show a.tmps.getD 58 undef = _ from facts_at hp 10 58 (by kernel_rfl))), fun _ _ => trivial⟩
              · intro a wx hb hd hs ho hp
                exact Or.inr ⟨wanted_no rfl (yielded_at (k := 10) (d := 58) (by kernel_rfl) (show a.tmps.getD 58 undef = _ from facts_at hp 10 58 (by kernel_rfl))), fun _ _ => trivial⟩
              · intro a wx hb hd hs ho hp
                exact Or.inr ⟨wanted_no rfl (yielded_at (k := 10) (d := 58) (by kernel_rfl) (show a.tmps.getD 58 undef = _ from facts_at hp 10 58 (by kernel_rfl))), fun _ _ => trivial⟩
              · intro a wx hb hd hs ho hp
                exact Or.inr ⟨wanted_no rfl (yielded_at (k := 10) (d := 58) (by kernel_rfl) (show a.tmps.getD 58 undef = _ from facts_at hp 10 58 (by kernel_rfl))), fun _ _ => trivial⟩
              · intro a wx hb hd hs ho hp
                refine Or.inl ⟨wanted_yes rfl (yielded_at (k := 7) (d := 55) (by kernel_rfl) (show a.tmps.getD 55 undef = _ from facts_at hp 7 55 (by kernel_rfl))), ?_⟩
                have h58 : a.tmps.getD 58 undef = .bool false := facts_at hp 10 58 (by kernel_rfl)
                have h69 := facts_at hp 21 69 (by kernel_rfl)
                unfold Oper.wp
                go_simp
                exact Stepped.at (v := .bool false) (by first | rfl | simp) hd (Below.refl _ _) rfl
              · intro a wx hb hd hs ho hp
                refine Or.inl ⟨rfl, ?_⟩
                have h55 : a.tmps.getD 55 undef = .bool false := facts_at hp 7 55 (by kernel_rfl)
                have h70 : a.tmps.getD 70 undef = .bool false := facts_at hp 22 70 (by kernel_rfl)
                unfold Oper.wp
                go_simp
                exact Stepped.at (v := .bool false) (by first | rfl | simp) hd (Below.refl _ _) rfl
            intro ac W8 hJ
            obtain ⟨u48, f48⟩ : ∃ u, ac.tmps.getD 48 undef = u := ⟨_, rfl⟩
            obtain ⟨u49, f49⟩ : ∃ u, ac.tmps.getD 49 undef = u := ⟨_, rfl⟩
            obtain ⟨u50, f50⟩ : ∃ u, ac.tmps.getD 50 undef = u := ⟨_, rfl⟩
            obtain ⟨u51, f51⟩ : ∃ u, ac.tmps.getD 51 undef = u := ⟨_, rfl⟩
            obtain ⟨u52, f52⟩ : ∃ u, ac.tmps.getD 52 undef = u := ⟨_, rfl⟩
            obtain ⟨u53, f53⟩ : ∃ u, ac.tmps.getD 53 undef = u := ⟨_, rfl⟩
            obtain ⟨u54, f54⟩ : ∃ u, ac.tmps.getD 54 undef = u := ⟨_, rfl⟩
            obtain ⟨u55, f55⟩ : ∃ u, ac.tmps.getD 55 undef = u := ⟨_, rfl⟩
            obtain ⟨u56, f56⟩ : ∃ u, ac.tmps.getD 56 undef = u := ⟨_, rfl⟩
            obtain ⟨u57, f57⟩ : ∃ u, ac.tmps.getD 57 undef = u := ⟨_, rfl⟩
            obtain ⟨u58, f58⟩ : ∃ u, ac.tmps.getD 58 undef = u := ⟨_, rfl⟩
            obtain ⟨u59, f59⟩ : ∃ u, ac.tmps.getD 59 undef = u := ⟨_, rfl⟩
            obtain ⟨u60, f60⟩ : ∃ u, ac.tmps.getD 60 undef = u := ⟨_, rfl⟩
            obtain ⟨u61, f61⟩ : ∃ u, ac.tmps.getD 61 undef = u := ⟨_, rfl⟩
            obtain ⟨u62, f62⟩ : ∃ u, ac.tmps.getD 62 undef = u := ⟨_, rfl⟩
            obtain ⟨u63, f63⟩ : ∃ u, ac.tmps.getD 63 undef = u := ⟨_, rfl⟩
            obtain ⟨u64, f64⟩ : ∃ u, ac.tmps.getD 64 undef = u := ⟨_, rfl⟩
            obtain ⟨u65, f65⟩ : ∃ u, ac.tmps.getD 65 undef = u := ⟨_, rfl⟩
            obtain ⟨u66, f66⟩ : ∃ u, ac.tmps.getD 66 undef = u := ⟨_, rfl⟩
            obtain ⟨u67, f67⟩ : ∃ u, ac.tmps.getD 67 undef = u := ⟨_, rfl⟩
            obtain ⟨u68, f68⟩ : ∃ u, ac.tmps.getD 68 undef = u := ⟨_, rfl⟩
            obtain ⟨u69, f69⟩ : ∃ u, ac.tmps.getD 69 undef = u := ⟨_, rfl⟩
            obtain ⟨u70, f70⟩ : ∃ u, ac.tmps.getD 70 undef = u := ⟨_, rfl⟩
            have f71 : ac.tmps.getD 71 undef = .bool false := hJ.at_end 23 71 (by kernel_rfl)
            have hBelow := hJ.below
            obtain ⟨TT, DD⟩ := ac
            obtain rfl : DD = [] := hJ.defers
            have hE := slots_merge [false, false, false, false, false, false, false, false, false, false, false, false, false, false, false, false, false, false, false, false, false, false, false, false, false, false, false, false, false, false, false, false, false, false, false, false, false, false, false, false, false, false, false, false, false, false, false, false, true, true, true, true, true, true, true, true, true, true, true, true, true, true, true, true, true, true, true, true, true, true, true, true, false, false, false, false, false, false, false, false, false, false, false, false, false, false, false, false, false, false, false, false, false, false, false, false, false, false, false, false, false, false, false, false, false, false, false, false, false, false, false, false] 112 hJ.tmps rfl (by kernel_rfl) hJ.outer
            simp only [mergeFrom, Nat.zero_add, Nat.reduceAdd, f48, f49, f50, f51, f52, f53, f54, f55, f56, f57, f58, f59, f60, f61, f62, f63, f64, f65, f66, f67, f68, f69, f70, f71] at hE
            clear hst hJ f48 f49 f50 f51 f52 f53 f54 f55 f56 f57 f58 f59 f60 f61 f62 f63 f64 f65 f66 f67 f68 f69 f70 f71
            subst hE
            have HBZ := Lib.hid (below_then HBR.out hBelow)
            clear hBelow
            go_wp2
            go_roundw
            case rel => exact ⟨j + 1, by omega, by go_num, HBZ.out⟩
            case measure => simp [intOf]; omega
          · obtain ⟨k, hk⟩ : ∃ k, j = k + 1 := ⟨j - 1, by omega⟩
            have hkl : k < P.length := by omega
            obtain ⟨g', cc', u0, u1, e, h0, h1, hyy⟩ := (HRES.out.below hBr).at2 k hkl
            simp only [Value.slice.injEq, Option.some.injEq, Addr.mk.injEq] at e
            obtain ⟨⟨rfl, _⟩, _, rfl⟩ := e
            have H0 := Lib.hid h0
            have H1 := Lib.hid h1
            have HYY := Lib.hid hyy
            have HCM := Lib.hid (show cmpA P[k] P[j] = -1 by subst hk; exact HP2.out k hlt)
            have i4 : (0 : Int) ≤ (k : Int) := by omega
            have i5 : (k : Int) < (P.length : Int) := by omega
            have i6 : IntKind.i64.wrap ((j : Int) - 1) = (k : Int) := by rw [IntWalk.i64_in _ (by omega)]; omega
            clear g0 g1 hxx hBr h0 h1 hyy
            have HKK := Lib.hid hk
            clear hk
            go_wp2_with fail
            have hst := @FL_grow [fV (.pointer (some ⟨S, 0, none⟩)), fV (.slice (some ⟨g, 0, none⟩) P.length gc), fV (.int .i64 j), fV (.pointer (some ⟨g, j * 2, none⟩)), fV (.agg #[v0, v1]), fV (.bool true), fV (.bool false), fV (.bool false), fV (.int .i64 j), fV (.bool true), fV (.bool true), fV (.slice (some ⟨g, 0, none⟩) P.length gc), fV (.int .i64 j), fV (.int .i64 k), fV (.pointer (some ⟨g, k * 2, none⟩)), fV (.agg #[u0, u1]), fV (.slice (some ⟨g, 0, none⟩) P.length gc), fV (.int .i64 j), fV (.pointer (some ⟨g, j * 2, none⟩)), fV (.agg #[v0, v1]), fV (.int .i64 (-1)), fV (.bool false), fV (.bool false), fV (.bool false)] (by
              intro F hF
              simp only [List.mem_cons, List.not_mem_nil, or_false] at hF
              rcases hF with rfl | rfl | rfl | rfl | rfl | rfl | rfl | rfl | rfl | rfl | rfl | rfl | rfl | rfl | rfl | rfl | rfl | rfl | rfl | rfl | rfl | rfl | rfl | rfl <;> first | exact fV_stays _)
            refine wp_region_grow_orB (by kernel_rfl) (FL [fV (.pointer (some ⟨S, 0, none⟩)), fV (.slice (some ⟨g, 0, none⟩) P.length gc), fV (.int .i64 j), fV (.pointer (some ⟨g, j * 2, none⟩)), fV (.agg #[v0, v1]), fV (.bool true), fV (.bool false), fV (.bool false), fV (.int .i64 j), fV (.bool true), fV (.bool true), fV (.slice (some ⟨g, 0, none⟩) P.length gc), fV (.int .i64 j), fV (.int .i64 k), fV (.pointer (some ⟨g, k * 2, none⟩)), fV (.agg #[u0, u1]), fV (.slice (some ⟨g, 0, none⟩) P.length gc), fV (.int .i64 j), fV (.pointer (some ⟨g, j * 2, none⟩)), fV (.agg #[v0, v1]), fV (.int .i64 (-1)), fV (.bool false), fV (.bool false), fV (.bool false)]) hst (by kernel_rfl) (steps_or ?_) ?_
            · refine ⟨?_, ?_, ?_, ?_, ?_, ?_, ?_, ?_, ?_, ?_, ?_, ?_, ?_, ?_, ?_, ?_, ?_, ?_, ?_, ?_, ?_, ?_, ?_, ?_, trivial⟩
              · intro a wx hb hd hs ho hp
                refine Or.inl ⟨rfl, ?_⟩
                have h9 : a.tmps.getD 9 undef = .pointer (some ⟨S, 0, none⟩) := (ho 9 (by kernel_rfl)).trans rfl
                unfold Oper.wp
                go_simp
                exact Stepped.at (v := .pointer (some ⟨S, 0, none⟩)) (by first | rfl | simp) hd (Below.refl _ _) rfl
              · intro a wx hb hd hs ho hp
                refine Or.inl ⟨rfl, ?_⟩
                have h11 : a.tmps.getD 11 undef = .slice (some ⟨g, 0, none⟩) P.length gc := (ho 11 (by kernel_rfl)).trans rfl
                unfold Oper.wp
                go_simp
                exact Stepped.at (v := .slice (some ⟨g, 0, none⟩) P.length gc) (by first | rfl | simp) hd (Below.refl _ _) rfl
              · intro a wx hb hd hs ho hp
                refine Or.inl ⟨rfl, ?_⟩
                have h12 : a.tmps.getD 12 undef = .int .i64 j := (ho 12 (by kernel_rfl)).trans rfl
                unfold Oper.wp
                go_simp
                exact Stepped.at (v := .int .i64 j) (by first | rfl | simp) hd (Below.refl _ _) rfl
              · intro a wx hb hd hs ho hp
                refine Or.inl ⟨rfl, ?_⟩
                have h49 : a.tmps.getD 49 undef = .slice (some ⟨g, 0, none⟩) P.length gc := facts_at hp 1 49 (by kernel_rfl)
                have h50 : a.tmps.getD 50 undef = .int .i64 j := facts_at hp 2 50 (by kernel_rfl)
                unfold Oper.wp
                go_simp
                exact Stepped.at (v := .pointer (some ⟨g, j * 2, none⟩)) (by first | rfl | simp) hd (Below.refl _ _) rfl
              · intro a wx hb hd hs ho hp
                refine Or.inl ⟨rfl, ?_⟩
                have h51 : a.tmps.getD 51 undef = .pointer (some ⟨g, j * 2, none⟩) := facts_at hp 3 51 (by kernel_rfl)
                have s51 := qslot_of (hs.trans (rfl : _ = 112)) (by decide) h51
                have x0 := (hb.cell (block_lt_of_cell G0.out)).trans G0.out
                have x1 := (hb.cell (block_lt_of_cell G1.out)).trans G1.out
                unfold Oper.wp
                go_simp
                exact Stepped.at (v := .agg #[v0, v1]) (by first | rfl | simp) hd (Below.refl _ _) rfl
              · intro a wx hb hd hs ho hp
                refine Or.inl ⟨rfl, ?_⟩
                have h48 : a.tmps.getD 48 undef = .pointer (some ⟨S, 0, none⟩) := facts_at hp 0 48 (by kernel_rfl)
                have h52 : a.tmps.getD 52 undef = .agg #[v0, v1] := facts_at hp 4 52 (by kernel_rfl)
                have hx := has_q w4.heap.size S lab2 A P[j] v0 v1 true wx (HI8.out.below hb) (HXX.out.below hb) (HCA.out _ HMB.out) ⟨fun _ => HMB.out, fun _ => rfl⟩
                unfold Oper.wp
                go_simp
                refine (hx).mono ?_
                rintro e w9 ⟨rfl, hb9⟩
                exact Stepped.at (v := .bool true) rfl hd (hb9) rfl
              · intro a wx hb hd hs ho hp
                refine Or.inl ⟨rfl, ?_⟩
                have h53 : a.tmps.getD 53 undef = .bool true := facts_at hp 5 53 (by kernel_rfl)
                unfold Oper.wp
                go_simp
                exact Stepped.at (v := .bool false) (by first | rfl | simp) hd (Below.refl _ _) rfl
              · intro a wx hb hd hs ho hp
                refine Or.inl ⟨rfl, ?_⟩
                have h54 : a.tmps.getD 54 undef = .bool false := facts_at hp 6 54 (by kernel_rfl)
                unfold Oper.wp
                go_simp
                exact Stepped.at (v := .bool false) (by first | rfl | simp) hd (Below.refl _ _) rfl
              · intro a wx hb hd hs ho hp
                refine Or.inl ⟨wanted_yes rfl (yielded_at (k := 7) (d := 55) (by kernel_rfl) (show a.tmps.getD 55 undef = _ from facts_at hp 7 55 (by kernel_rfl))), ?_⟩
                have h12 : a.tmps.getD 12 undef = .int .i64 j := (ho 12 (by kernel_rfl)).trans rfl
                unfold Oper.wp
                go_simp
                exact Stepped.at (v := .int .i64 j) (by first | rfl | simp) hd (Below.refl _ _) rfl
              · intro a wx hb hd hs ho hp
                refine Or.inl ⟨wanted_yes rfl (yielded_at (k := 7) (d := 55) (by kernel_rfl) (show a.tmps.getD 55 undef = _ from facts_at hp 7 55 (by kernel_rfl))), ?_⟩
                have h56 : a.tmps.getD 56 undef = .int .i64 j := facts_at hp 8 56 (by kernel_rfl)
                unfold Oper.wp
                go_simp
                exact Stepped.at (v := .bool true) (by first | rfl | simp) hd (Below.refl _ _) rfl
              · intro a wx hb hd hs ho hp
                refine Or.inl ⟨wanted_yes rfl (yielded_at (k := 7) (d := 55) (by kernel_rfl) (show a.tmps.getD 55 undef = _ from facts_at hp 7 55 (by kernel_rfl))), ?_⟩
                have h57 : a.tmps.getD 57 undef = .bool true := facts_at hp 9 57 (by kernel_rfl)
                unfold Oper.wp
                go_simp
                exact Stepped.at (v := .bool true) (by first | rfl | simp) hd (Below.refl _ _) rfl
              · intro a wx hb hd hs ho hp
                refine Or.inl ⟨wanted_yes rfl (yielded_at (k := 10) (d := 58) (by kernel_rfl) (show a.tmps.getD 58 undef = _ from facts_at hp 10 58 (by kernel_rfl))), ?_⟩
                have h11 : a.tmps.getD 11 undef = .slice (some ⟨g, 0, none⟩) P.length gc := (ho 11 (by kernel_rfl)).trans rfl
                unfold Oper.wp
                go_simp
                exact Stepped.at (v := .slice (some ⟨g, 0, none⟩) P.length gc) (by first | rfl | simp) hd (Below.refl _ _) rfl
              · intro a wx hb hd hs ho hp
                refine Or.inl ⟨wanted_yes rfl (yielded_at (k := 10) (d := 58) (by kernel_rfl) (show a.tmps.getD 58 undef = _ from facts_at hp 10 58 (by kernel_rfl))), ?_⟩
                have h12 : a.tmps.getD 12 undef = .int .i64 j := (ho 12 (by kernel_rfl)).trans rfl
                unfold Oper.wp
                go_simp
                exact Stepped.at (v := .int .i64 j) (by first | rfl | simp) hd (Below.refl _ _) rfl
              · intro a wx hb hd hs ho hp
                refine Or.inl ⟨wanted_yes rfl (yielded_at (k := 10) (d := 58) (by kernel_rfl) (show a.tmps.getD 58 undef = _ from facts_at hp 10 58 (by kernel_rfl))), ?_⟩
                have h60 : a.tmps.getD 60 undef = .int .i64 j := facts_at hp 12 60 (by kernel_rfl)
                unfold Oper.wp
                go_simp
                exact Stepped.at (v := .int .i64 k) (by first | rfl | simp) hd (Below.refl _ _) rfl
              · intro a wx hb hd hs ho hp
                refine Or.inl ⟨wanted_yes rfl (yielded_at (k := 10) (d := 58) (by kernel_rfl) (show a.tmps.getD 58 undef = _ from facts_at hp 10 58 (by kernel_rfl))), ?_⟩
                have h59 : a.tmps.getD 59 undef = .slice (some ⟨g, 0, none⟩) P.length gc := facts_at hp 11 59 (by kernel_rfl)
                have h61 : a.tmps.getD 61 undef = .int .i64 k := facts_at hp 13 61 (by kernel_rfl)
                unfold Oper.wp
                go_simp
                exact Stepped.at (v := .pointer (some ⟨g, k * 2, none⟩)) (by first | rfl | simp) hd (Below.refl _ _) rfl
              · intro a wx hb hd hs ho hp
                refine Or.inl ⟨wanted_yes rfl (yielded_at (k := 10) (d := 58) (by kernel_rfl) (show a.tmps.getD 58 undef = _ from facts_at hp 10 58 (by kernel_rfl))), ?_⟩
                have h62 : a.tmps.getD 62 undef = .pointer (some ⟨g, k * 2, none⟩) := facts_at hp 14 62 (by kernel_rfl)
                have s62 := qslot_of (hs.trans (rfl : _ = 112)) (by decide) h62
                have x0 := (hb.cell (block_lt_of_cell H0.out)).trans H0.out
                have x1 := (hb.cell (block_lt_of_cell H1.out)).trans H1.out
                unfold Oper.wp
                go_simp
                exact Stepped.at (v := .agg #[u0, u1]) (by first | rfl | simp) hd (Below.refl _ _) rfl
              · intro a wx hb hd hs ho hp
                refine Or.inl ⟨wanted_yes rfl (yielded_at (k := 10) (d := 58) (by kernel_rfl) (show a.tmps.getD 58 undef = _ from facts_at hp 10 58 (by kernel_rfl))), ?_⟩
                have h11 : a.tmps.getD 11 undef = .slice (some ⟨g, 0, none⟩) P.length gc := (ho 11 (by kernel_rfl)).trans rfl
                unfold Oper.wp
                go_simp
                exact Stepped.at (v := .slice (some ⟨g, 0, none⟩) P.length gc) (by first | rfl | simp) hd (Below.refl _ _) rfl
              · intro a wx hb hd hs ho hp
                refine Or.inl ⟨wanted_yes rfl (yielded_at (k := 10) (d := 58) (by kernel_rfl) (show a.tmps.getD 58 undef = _ from facts_at hp 10 58 (by kernel_rfl))), ?_⟩
                have h12 : a.tmps.getD 12 undef = .int .i64 j := (ho 12 (by kernel_rfl)).trans rfl
                unfold Oper.wp
                go_simp
                exact Stepped.at (v := .int .i64 j) (by first | rfl | simp) hd (Below.refl _ _) rfl
              · intro a wx hb hd hs ho hp
                refine Or.inl ⟨wanted_yes rfl (yielded_at (k := 10) (d := 58) (by kernel_rfl) (show a.tmps.getD 58 undef = _ from facts_at hp 10 58 (by kernel_rfl))), ?_⟩
                have h64 : a.tmps.getD 64 undef = .slice (some ⟨g, 0, none⟩) P.length gc := facts_at hp 16 64 (by kernel_rfl)
                have h65 : a.tmps.getD 65 undef = .int .i64 j := facts_at hp 17 65 (by kernel_rfl)
                unfold Oper.wp
                go_simp
                exact Stepped.at (v := .pointer (some ⟨g, j * 2, none⟩)) (by first | rfl | simp) hd (Below.refl _ _) rfl
              · intro a wx hb hd hs ho hp
                refine Or.inl ⟨wanted_yes rfl (yielded_at (k := 10) (d := 58) (by kernel_rfl) (show a.tmps.getD 58 undef = _ from facts_at hp 10 58 (by kernel_rfl))), ?_⟩
                have h66 : a.tmps.getD 66 undef = .pointer (some ⟨g, j * 2, none⟩) := facts_at hp 18 66 (by kernel_rfl)
                have s66 := qslot_of (hs.trans (rfl : _ = 112)) (by decide) h66
                have x0 := (hb.cell (block_lt_of_cell G0.out)).trans G0.out
                have x1 := (hb.cell (block_lt_of_cell G1.out)).trans G1.out
                unfold Oper.wp
                go_simp
                exact Stepped.at (v := .agg #[v0, v1]) (by first | rfl | simp) hd (Below.refl _ _) rfl
              · intro a wx hb hd hs ho hp
                refine Or.inl ⟨wanted_yes rfl (yielded_at (k := 10) (d := 58) (by kernel_rfl) (show a.tmps.getD 58 undef = _ from facts_at hp 10 58 (by kernel_rfl))), ?_⟩
                have h63 : a.tmps.getD 63 undef = .agg #[u0, u1] := facts_at hp 15 63 (by kernel_rfl)
                have h67 : a.tmps.getD 67 undef = .agg #[v0, v1] := facts_at hp 19 67 (by kernel_rfl)
                have hx := compareA_gen P[k] P[j] u0 u1 v0 v1 wx (HYY.out.below hb) (HXX.out.below hb)
                rw [HCM.out] at hx
                unfold Oper.wp
                go_simp
                refine (hx).mono ?_
                rintro e w9 ⟨rfl, hb9⟩
                exact Stepped.at (v := .int .i64 (-1)) rfl hd (hb9) rfl
              · intro a wx hb hd hs ho hp
                refine Or.inl ⟨wanted_yes rfl (yielded_at (k := 10) (d := 58) (by kernel_rfl) (show a.tmps.getD 58 undef = _ from facts_at hp 10 58 (by kernel_rfl))), ?_⟩
                have h68 : a.tmps.getD 68 undef = .int .i64 (-1) := facts_at hp 20 68 (by kernel_rfl)
                unfold Oper.wp
                go_simp
                exact Stepped.at (v := .bool false) (by first | rfl | simp) hd (Below.refl _ _) rfl
              · intro a wx hb hd hs ho hp
                refine Or.inl ⟨wanted_yes rfl (yielded_at (k := 7) (d := 55) (by kernel_rfl) (show a.tmps.getD 55 undef = _ from facts_at hp 7 55 (by kernel_rfl))), ?_⟩
                have h58 : a.tmps.getD 58 undef = .bool true := facts_at hp 10 58 (by kernel_rfl)
                have h69 : a.tmps.getD 69 undef = .bool false := facts_at hp 21 69 (by kernel_rfl)
                unfold Oper.wp
                go_simp
                exact Stepped.at (v := .bool false) (by first | rfl | simp) hd (Below.refl _ _) rfl
              · intro a wx hb hd hs ho hp
                refine Or.inl ⟨rfl, ?_⟩
                have h55 : a.tmps.getD 55 undef = .bool false := facts_at hp 7 55 (by kernel_rfl)
                have h70 : a.tmps.getD 70 undef = .bool false := facts_at hp 22 70 (by kernel_rfl)
                unfold Oper.wp
                go_simp
                exact Stepped.at (v := .bool false) (by first | rfl | simp) hd (Below.refl _ _) rfl
            intro ac W8 hJ
            obtain ⟨u48, f48⟩ : ∃ u, ac.tmps.getD 48 undef = u := ⟨_, rfl⟩
            obtain ⟨u49, f49⟩ : ∃ u, ac.tmps.getD 49 undef = u := ⟨_, rfl⟩
            obtain ⟨u50, f50⟩ : ∃ u, ac.tmps.getD 50 undef = u := ⟨_, rfl⟩
            obtain ⟨u51, f51⟩ : ∃ u, ac.tmps.getD 51 undef = u := ⟨_, rfl⟩
            obtain ⟨u52, f52⟩ : ∃ u, ac.tmps.getD 52 undef = u := ⟨_, rfl⟩
            obtain ⟨u53, f53⟩ : ∃ u, ac.tmps.getD 53 undef = u := ⟨_, rfl⟩
            obtain ⟨u54, f54⟩ : ∃ u, ac.tmps.getD 54 undef = u := ⟨_, rfl⟩
            obtain ⟨u55, f55⟩ : ∃ u, ac.tmps.getD 55 undef = u := ⟨_, rfl⟩
            obtain ⟨u56, f56⟩ : ∃ u, ac.tmps.getD 56 undef = u := ⟨_, rfl⟩
            obtain ⟨u57, f57⟩ : ∃ u, ac.tmps.getD 57 undef = u := ⟨_, rfl⟩
            obtain ⟨u58, f58⟩ : ∃ u, ac.tmps.getD 58 undef = u := ⟨_, rfl⟩
            obtain ⟨u59, f59⟩ : ∃ u, ac.tmps.getD 59 undef = u := ⟨_, rfl⟩
            obtain ⟨u60, f60⟩ : ∃ u, ac.tmps.getD 60 undef = u := ⟨_, rfl⟩
            obtain ⟨u61, f61⟩ : ∃ u, ac.tmps.getD 61 undef = u := ⟨_, rfl⟩
            obtain ⟨u62, f62⟩ : ∃ u, ac.tmps.getD 62 undef = u := ⟨_, rfl⟩
            obtain ⟨u63, f63⟩ : ∃ u, ac.tmps.getD 63 undef = u := ⟨_, rfl⟩
            obtain ⟨u64, f64⟩ : ∃ u, ac.tmps.getD 64 undef = u := ⟨_, rfl⟩
            obtain ⟨u65, f65⟩ : ∃ u, ac.tmps.getD 65 undef = u := ⟨_, rfl⟩
            obtain ⟨u66, f66⟩ : ∃ u, ac.tmps.getD 66 undef = u := ⟨_, rfl⟩
            obtain ⟨u67, f67⟩ : ∃ u, ac.tmps.getD 67 undef = u := ⟨_, rfl⟩
            obtain ⟨u68, f68⟩ : ∃ u, ac.tmps.getD 68 undef = u := ⟨_, rfl⟩
            obtain ⟨u69, f69⟩ : ∃ u, ac.tmps.getD 69 undef = u := ⟨_, rfl⟩
            obtain ⟨u70, f70⟩ : ∃ u, ac.tmps.getD 70 undef = u := ⟨_, rfl⟩
            have f71 : ac.tmps.getD 71 undef = .bool false := hJ.at_end 23 71 (by kernel_rfl)
            have hBelow := hJ.below
            obtain ⟨TT, DD⟩ := ac
            obtain rfl : DD = [] := hJ.defers
            have hE := slots_merge [false, false, false, false, false, false, false, false, false, false, false, false, false, false, false, false, false, false, false, false, false, false, false, false, false, false, false, false, false, false, false, false, false, false, false, false, false, false, false, false, false, false, false, false, false, false, false, false, true, true, true, true, true, true, true, true, true, true, true, true, true, true, true, true, true, true, true, true, true, true, true, true, false, false, false, false, false, false, false, false, false, false, false, false, false, false, false, false, false, false, false, false, false, false, false, false, false, false, false, false, false, false, false, false, false, false, false, false, false, false, false, false] 112 hJ.tmps rfl (by kernel_rfl) hJ.outer
            simp only [mergeFrom, Nat.zero_add, Nat.reduceAdd, f48, f49, f50, f51, f52, f53, f54, f55, f56, f57, f58, f59, f60, f61, f62, f63, f64, f65, f66, f67, f68, f69, f70, f71] at hE
            clear hst hJ f48 f49 f50 f51 f52 f53 f54 f55 f56 f57 f58 f59 f60 f61 f62 f63 f64 f65 f66 f67 f68 f69 f70 f71
            subst hE
            have HBZ := Lib.hid (below_then HBR.out hBelow)
            clear hBelow
            go_wp2
            go_roundw
            case rel => exact ⟨j + 1, by omega, by go_num, HBZ.out⟩
            case measure => simp [intOf]; omega
        · have HI8 := Lib.hid (HI7.out.below hBr)
          have HB8 := Lib.hid (below_then HB7.out hBr)
          have hjP : j = P.length := by omega
          clear hBr HRES HP1 HP2 HI7 HB7 hlt hj
          have HX8 := Lib.hid (HX.out.below HB8.out)
          have HY8 := Lib.hid (HY.out.below HB8.out)
          have HZ8 := Lib.hid (HZ.out.below HB8.out)
          have gx := HX8.out.good
          have gy := HY8.out.good
          have gz := HZ8.out.good
          have HSX := Lib.hid (cmpA_sg (p, us) (q, vs))
          have HNG := Lib.hid (cmpA_neg (p, us) (q, vs) gx gy)
          have HSA := Lib.hid (sameA_cmp (p, us) (q, vs) gx gy)
          have HTR := Lib.hid (cmpA_tri (p, us) (q, vs) (r, ts) gx gy gz)
          obtain ⟨X, hX⟩ : ∃ X, cmpA (p, us) (q, vs) = X := ⟨_, rfl⟩
          obtain ⟨Y, hY⟩ : ∃ X, cmpA (q, vs) (r, ts) = X := ⟨_, rfl⟩
          obtain ⟨Z, hZ⟩ : ∃ X, cmpA (p, us) (r, ts) = X := ⟨_, rfl⟩
          rw [hX] at HSX HNG HSA HTR
          rw [hY, hZ] at HTR
          have HEX := Lib.hid hX
          have HEY := Lib.hid hY
          have HEZ := Lib.hid hZ
          clear gx gy gz hX hY hZ
          subst hjP
          obtain ⟨wr', hwr'⟩ : ∃ X, X = wr := ⟨_, rfl⟩
          subst hwr'
          have mv : ∀ {k : Nat} {o : Obj}, W.heap[k]? = some o → wr'.heap[k]? = some o := fun h => (HB8.out.block _ (Array.getElem?_eq_some_iff.1 h).1).trans h
          have HR1 := Lib.hid (mv HK.out.1)
          have HR2 := Lib.hid (mv HK.out.2.1)
          have HR3 := Lib.hid (mv HK.out.2.2)
          clear mv
          go_wp2_with fail
          have hst := @FL_grow [fV (.agg #[.string p, .slice ax us.length cx]), fV (.agg #[.string q, .slice ay vs.length cy]), fV (.int .i64 X), fV (.agg #[.string q, .slice ay vs.length cy]), fV (.agg #[.string r, .slice az ts.length cz]), fV (.int .i64 Y), fV (.agg #[.string p, .slice ax us.length cx]), fV (.agg #[.string r, .slice az ts.length cz]), fV (.int .i64 Z), fV (.int .i64 X), fV (.int .i64 Y), fV (.int .i64 Z)] (by
            intro F hF
            simp only [List.mem_cons, List.not_mem_nil, or_false] at hF
            rcases hF with rfl | rfl | rfl | rfl | rfl | rfl | rfl | rfl | rfl | rfl | rfl | rfl <;> first | exact fV_stays _)
          refine wp_region_grow (by kernel_rfl) (FL [fV (.agg #[.string p, .slice ax us.length cx]), fV (.agg #[.string q, .slice ay vs.length cy]), fV (.int .i64 X), fV (.agg #[.string q, .slice ay vs.length cy]), fV (.agg #[.string r, .slice az ts.length cz]), fV (.int .i64 Y), fV (.agg #[.string p, .slice ax us.length cx]), fV (.agg #[.string r, .slice az ts.length cz]), fV (.int .i64 Z), fV (.int .i64 X), fV (.int .i64 Y), fV (.int .i64 Z)]) hst (by kernel_rfl) (steps_all ?_) ?_
          · refine ⟨?_, ?_, ?_, ?_, ?_, ?_, ?_, ?_, ?_, ?_, ?_, ?_, trivial⟩
            · intro a wx hb hd hs ho hp
              refine ⟨rfl, ?_⟩
              have h5 : a.tmps.getD 5 undef = .pointer (some ⟨m, 0, none⟩) := (ho 5 (by kernel_rfl)).trans rfl
              have hx := (hb.block (m) (Array.getElem?_eq_some_iff.1 HR1.out).1).trans HR1.out
              have s5 := qslot_of (hs.trans (rfl : _ = 112)) (by decide) h5
              have x0 := cells_at hx 0 _ rfl
              have x1 := cells_at hx 1 _ rfl
              unfold Oper.wp
              go_simp
              exact Stepped.at (v := .agg #[.string p, .slice ax us.length cx]) (by first | rfl | simp) hd (Below.refl _ _) rfl
            · intro a wx hb hd hs ho hp
              refine ⟨rfl, ?_⟩
              have h6 : a.tmps.getD 6 undef = .pointer (some ⟨m + 1, 0, none⟩) := (ho 6 (by kernel_rfl)).trans rfl
              have hx := (hb.block (m + 1) (Array.getElem?_eq_some_iff.1 HR2.out).1).trans HR2.out
              have s6 := qslot_of (hs.trans (rfl : _ = 112)) (by decide) h6
              have x0 := cells_at hx 0 _ rfl
              have x1 := cells_at hx 1 _ rfl
              unfold Oper.wp
              go_simp
              exact Stepped.at (v := .agg #[.string q, .slice ay vs.length cy]) (by first | rfl | simp) hd (Below.refl _ _) rfl
            · intro a wx hb hd hs ho hp
              refine ⟨rfl, ?_⟩
              have h72 : a.tmps.getD 72 undef = .agg #[.string p, .slice ax us.length cx] := facts_at hp 0 72 (by kernel_rfl)
              have h73 : a.tmps.getD 73 undef = .agg #[.string q, .slice ay vs.length cy] := facts_at hp 1 73 (by kernel_rfl)
              have hx := compareA_gen (p, us) (q, vs) _ _ _ _ wx (HX8.out.below hb) (HY8.out.below hb)
              rw [HEX.out] at hx
              unfold Oper.wp
              go_simp
              refine (hx).mono ?_
              rintro e w9 ⟨rfl, hb9⟩
              exact Stepped.at (v := .int .i64 X) rfl hd (hb9) rfl
            · intro a wx hb hd hs ho hp
              refine ⟨rfl, ?_⟩
              have h6 : a.tmps.getD 6 undef = .pointer (some ⟨m + 1, 0, none⟩) := (ho 6 (by kernel_rfl)).trans rfl
              have hx := (hb.block (m + 1) (Array.getElem?_eq_some_iff.1 HR2.out).1).trans HR2.out
              have s6 := qslot_of (hs.trans (rfl : _ = 112)) (by decide) h6
              have x0 := cells_at hx 0 _ rfl
              have x1 := cells_at hx 1 _ rfl
              unfold Oper.wp
              go_simp
              exact Stepped.at (v := .agg #[.string q, .slice ay vs.length cy]) (by first | rfl | simp) hd (Below.refl _ _) rfl
            · intro a wx hb hd hs ho hp
              refine ⟨rfl, ?_⟩
              have h7 : a.tmps.getD 7 undef = .pointer (some ⟨m + 1 + 1, 0, none⟩) := (ho 7 (by kernel_rfl)).trans rfl
              have hx := (hb.block (m + 1 + 1) (Array.getElem?_eq_some_iff.1 HR3.out).1).trans HR3.out
              have s7 := qslot_of (hs.trans (rfl : _ = 112)) (by decide) h7
              have x0 := cells_at hx 0 _ rfl
              have x1 := cells_at hx 1 _ rfl
              unfold Oper.wp
              go_simp
              exact Stepped.at (v := .agg #[.string r, .slice az ts.length cz]) (by first | rfl | simp) hd (Below.refl _ _) rfl
            · intro a wx hb hd hs ho hp
              refine ⟨rfl, ?_⟩
              have h75 : a.tmps.getD 75 undef = .agg #[.string q, .slice ay vs.length cy] := facts_at hp 3 75 (by kernel_rfl)
              have h76 : a.tmps.getD 76 undef = .agg #[.string r, .slice az ts.length cz] := facts_at hp 4 76 (by kernel_rfl)
              have hx := compareA_gen (q, vs) (r, ts) _ _ _ _ wx (HY8.out.below hb) (HZ8.out.below hb)
              rw [HEY.out] at hx
              unfold Oper.wp
              go_simp
              refine (hx).mono ?_
              rintro e w9 ⟨rfl, hb9⟩
              exact Stepped.at (v := .int .i64 Y) rfl hd (hb9) rfl
            · intro a wx hb hd hs ho hp
              refine ⟨rfl, ?_⟩
              have h5 : a.tmps.getD 5 undef = .pointer (some ⟨m, 0, none⟩) := (ho 5 (by kernel_rfl)).trans rfl
              have hx := (hb.block (m) (Array.getElem?_eq_some_iff.1 HR1.out).1).trans HR1.out
              have s5 := qslot_of (hs.trans (rfl : _ = 112)) (by decide) h5
              have x0 := cells_at hx 0 _ rfl
              have x1 := cells_at hx 1 _ rfl
              unfold Oper.wp
              go_simp
              exact Stepped.at (v := .agg #[.string p, .slice ax us.length cx]) (by first | rfl | simp) hd (Below.refl _ _) rfl
            · intro a wx hb hd hs ho hp
              refine ⟨rfl, ?_⟩
              have h7 : a.tmps.getD 7 undef = .pointer (some ⟨m + 1 + 1, 0, none⟩) := (ho 7 (by kernel_rfl)).trans rfl
              have hx := (hb.block (m + 1 + 1) (Array.getElem?_eq_some_iff.1 HR3.out).1).trans HR3.out
              have s7 := qslot_of (hs.trans (rfl : _ = 112)) (by decide) h7
              have x0 := cells_at hx 0 _ rfl
              have x1 := cells_at hx 1 _ rfl
              unfold Oper.wp
              go_simp
              exact Stepped.at (v := .agg #[.string r, .slice az ts.length cz]) (by first | rfl | simp) hd (Below.refl _ _) rfl
            · intro a wx hb hd hs ho hp
              refine ⟨rfl, ?_⟩
              have h78 : a.tmps.getD 78 undef = .agg #[.string p, .slice ax us.length cx] := facts_at hp 6 78 (by kernel_rfl)
              have h79 : a.tmps.getD 79 undef = .agg #[.string r, .slice az ts.length cz] := facts_at hp 7 79 (by kernel_rfl)
              have hx := compareA_gen (p, us) (r, ts) _ _ _ _ wx (HX8.out.below hb) (HZ8.out.below hb)
              rw [HEZ.out] at hx
              unfold Oper.wp
              go_simp
              refine (hx).mono ?_
              rintro e w9 ⟨rfl, hb9⟩
              exact Stepped.at (v := .int .i64 Z) rfl hd (hb9) rfl
            · intro a wx hb hd hs ho hp
              refine ⟨rfl, ?_⟩
              have h74 : a.tmps.getD 74 undef = .int .i64 X := facts_at hp 2 74 (by kernel_rfl)
              unfold Oper.wp
              go_simp
              exact Stepped.at (v := .int .i64 X) (by first | rfl | simp) hd (Below.refl _ _) rfl
            · intro a wx hb hd hs ho hp
              refine ⟨rfl, ?_⟩
              have h77 : a.tmps.getD 77 undef = .int .i64 Y := facts_at hp 5 77 (by kernel_rfl)
              unfold Oper.wp
              go_simp
              exact Stepped.at (v := .int .i64 Y) (by first | rfl | simp) hd (Below.refl _ _) rfl
            · intro a wx hb hd hs ho hp
              refine ⟨rfl, ?_⟩
              have h80 : a.tmps.getD 80 undef = .int .i64 Z := facts_at hp 8 80 (by kernel_rfl)
              unfold Oper.wp
              go_simp
              exact Stepped.at (v := .int .i64 Z) (by first | rfl | simp) hd (Below.refl _ _) rfl
          intro ac W9 hJ
          obtain ⟨u72, f72⟩ : ∃ u, ac.tmps.getD 72 undef = u := ⟨_, rfl⟩
          obtain ⟨u73, f73⟩ : ∃ u, ac.tmps.getD 73 undef = u := ⟨_, rfl⟩
          obtain ⟨u74, f74⟩ : ∃ u, ac.tmps.getD 74 undef = u := ⟨_, rfl⟩
          obtain ⟨u75, f75⟩ : ∃ u, ac.tmps.getD 75 undef = u := ⟨_, rfl⟩
          obtain ⟨u76, f76⟩ : ∃ u, ac.tmps.getD 76 undef = u := ⟨_, rfl⟩
          obtain ⟨u77, f77⟩ : ∃ u, ac.tmps.getD 77 undef = u := ⟨_, rfl⟩
          obtain ⟨u78, f78⟩ : ∃ u, ac.tmps.getD 78 undef = u := ⟨_, rfl⟩
          obtain ⟨u79, f79⟩ : ∃ u, ac.tmps.getD 79 undef = u := ⟨_, rfl⟩
          obtain ⟨u80, f80⟩ : ∃ u, ac.tmps.getD 80 undef = u := ⟨_, rfl⟩
          have f13 : ac.tmps.getD 13 undef = .int .i64 X := hJ.at_end 9 13 (by kernel_rfl)
          have f14 : ac.tmps.getD 14 undef = .int .i64 Y := hJ.at_end 10 14 (by kernel_rfl)
          have f15 : ac.tmps.getD 15 undef = .int .i64 Z := hJ.at_end 11 15 (by kernel_rfl)
          have hBelow := hJ.below
          obtain ⟨TT, DD⟩ := ac
          obtain rfl : DD = [] := hJ.defers
          have hE := slots_merge [false, false, false, false, false, false, false, false, false, false, false, false, false, true, true, true, false, false, false, false, false, false, false, false, false, false, false, false, false, false, false, false, false, false, false, false, false, false, false, false, false, false, false, false, false, false, false, false, false, false, false, false, false, false, false, false, false, false, false, false, false, false, false, false, false, false, false, false, false, false, false, false, true, true, true, true, true, true, true, true, true, false, false, false, false, false, false, false, false, false, false, false, false, false, false, false, false, false, false, false, false, false, false, false, false, false, false, false, false, false, false, false] 112 hJ.tmps rfl (by kernel_rfl) hJ.outer
          simp only [mergeFrom, Nat.zero_add, Nat.reduceAdd, f72, f73, f74, f75, f76, f77, f78, f79, f80, f13, f14, f15] at hE
          clear hst hJ f72 f73 f74 f75 f76 f77 f78 f79 f80 f13 f14 f15
          subst hE
          have HB9 := Lib.hid (below_then HB8.out hBelow)
          have HX9 := Lib.hid (HX8.out.below hBelow)
          have HY9 := Lib.hid (HY8.out.below hBelow)
          have HI9 := Lib.hid (HI8.out.below hBelow)
          have mv : ∀ {k : Nat} {o : Obj}, wr'.heap[k]? = some o → W9.heap[k]? = some o := fun h => (hBelow.block _ (Array.getElem?_eq_some_iff.1 h).1).trans h
          have HS1 := Lib.hid (mv HR1.out)
          have HS2 := Lib.hid (mv HR2.out)
          clear mv hBelow HB8 HX8 HY8 HZ8 HI8 HR1 HR2 HR3
          have d10 := cells_at HS1.out 0 _ rfl
          have d11 := cells_at HS1.out 1 _ rfl
          have d20 := cells_at HS2.out 0 _ rfl
          have d21 := cells_at HS2.out 1 _ rfl
          have HC9 := Lib.hid (compareA_gen (q, vs) (p, us) _ _ _ _ W9 HY9.out HX9.out)
          rw [HNG.out] at HC9
          have hwn : IntKind.i64.wrap (- -X) = X := by
            have := HSX.out
            unfold Sg at this
            rw [IntWalk.i64_in _ (by omega)]
            omega
          have hwn2 : (- -X : Int) = X := by omega
          have hwx : IntKind.i64.wrap X = X := by
            have := HSX.out
            unfold Sg at this
            exact IntWalk.i64_in _ (by omega)
          obtain ⟨la, lc, m1, m2, m3, hrow, _⟩ := HI9.out.row
          have HLN := Lib.hid (show ∀ Wx, Below W9.heap.size W9 Wx → Calls Tryz.prog 18 #[.pointer (some ⟨S, 0, none⟩)] Wx fun e w' => e = .returned (.int .i64 P.length) ∧ Below Wx.heap.size Wx w' from fun Wx hb => by
            have h := len_row S la A.length lc (some m1) (some m2) (some m3) Wx ((hb.block S (Array.getElem?_eq_some_iff.1 hrow).1).trans hrow)
            rw [← HP3.out] at h
            exact h)
          have HSM := Lib.hid (show ∀ Wx, Below W9.heap.size W9 Wx → Calls Tryz.prog 20 #[.agg #[.string p, .slice ax us.length cx], .agg #[.string q, .slice ay vs.length cy]] Wx fun e w' => e = .returned (.bool (decide (X = 0))) ∧ Below Wx.heap.size Wx w' from fun Wx hb => by
            have h := sameAtom_any (p, us) (q, vs) _ _ _ _ Wx (HX9.out.below hb) (HY9.out.below hb)
            rw [HSA.out] at h
            exact h)
          have HBW := Lib.hid (below_then HB.out HB9.out)
          have hsx := HSX.out
          have HTR2 := Lib.hid HTR.out
          clear hrow HI9 HB HB9 HX9 HY9 HSA HNG HEX HEY HEZ HTR HSX HX HY HZ HT HCA HP3 hwn hwn2 HK hll hpl
          unfold Sg at hsx
          have fin : ∀ (b : Bool), (X = 0 ↔ b = true) → decide (X = 0) = b := fun b h => by cases b <;> simp [h]
          rcases hsx with rfl | rfl | rfl
          · have HSN := HSM.out
            rw [show decide ((-1 : Int) = 0) = false from rfl] at HSN
            have HSN2 := Lib.hid HSN
            clear HSN HSM fin
            by_cases hY : Y < 0
            · have hZ : ¬ 0 ≤ Z := by
                have h := HTR2.out (by omega) (by omega)
                have h2 : Z ≠ 0 := fun e => by have := (h.2.1 e).1; omega
                omega
              clear HTR2
              go_wp2_with (first
                | (have _ := HB11.out; go_at_call 18; refine (HLN.out W11 (below_then HB10.out HB11.out)).mono ?_; rintro e W12 ⟨rfl, hb12⟩; have HB12 := Lib.hid hb12; clear hb12)
                | (have _ := HB10.out; go_at_call 20; refine (HSN2.out W10 HB10.out).mono ?_; rintro e W11 ⟨rfl, hb11⟩; have HB11 := Lib.hid hb11; clear hb11)
                | (go_at_call 12; refine HC9.out.mono ?_; rintro e W10 ⟨rfl, hb10⟩; have e10 := cells_at ((hb10.block _ (Array.getElem?_eq_some_iff.1 HS1.out).1).trans HS1.out) 0 _ rfl; have e11 := cells_at ((hb10.block _ (Array.getElem?_eq_some_iff.1 HS1.out).1).trans HS1.out) 1 _ rfl; have e20 := cells_at ((hb10.block _ (Array.getElem?_eq_some_iff.1 HS2.out).1).trans HS2.out) 0 _ rfl; have e21 := cells_at ((hb10.block _ (Array.getElem?_eq_some_iff.1 HS2.out).1).trans HS2.out) 1 _ rfl; have HB10 := Lib.hid hb10; clear hb10 d10 d11 d20 d21 HC9))
              go_ret
              exact ⟨rfl, below_then HBW.out (below_then HB10.out (below_then HB11.out HB12.out))⟩
            · clear HTR2
              go_wp2_with (first
                | (have _ := HB11.out; go_at_call 18; refine (HLN.out W11 (below_then HB10.out HB11.out)).mono ?_; rintro e W12 ⟨rfl, hb12⟩; have HB12 := Lib.hid hb12; clear hb12)
                | (have _ := HB10.out; go_at_call 20; refine (HSN2.out W10 HB10.out).mono ?_; rintro e W11 ⟨rfl, hb11⟩; have HB11 := Lib.hid hb11; clear hb11)
                | (go_at_call 12; refine HC9.out.mono ?_; rintro e W10 ⟨rfl, hb10⟩; have e10 := cells_at ((hb10.block _ (Array.getElem?_eq_some_iff.1 HS1.out).1).trans HS1.out) 0 _ rfl; have e11 := cells_at ((hb10.block _ (Array.getElem?_eq_some_iff.1 HS1.out).1).trans HS1.out) 1 _ rfl; have e20 := cells_at ((hb10.block _ (Array.getElem?_eq_some_iff.1 HS2.out).1).trans HS2.out) 0 _ rfl; have e21 := cells_at ((hb10.block _ (Array.getElem?_eq_some_iff.1 HS2.out).1).trans HS2.out) 1 _ rfl; have HB10 := Lib.hid hb10; clear hb10 d10 d11 d20 d21 HC9))
              go_ret
              exact ⟨rfl, below_then HBW.out (below_then HB10.out (below_then HB11.out HB12.out))⟩
          · have HSN := HSM.out
            rw [show decide ((0 : Int) = 0) = true from rfl] at HSN
            have HSN2 := Lib.hid HSN
            clear HSN HSM HTR2 fin
            go_wp2_with (first
              | (have _ := HB11.out; go_at_call 18; refine (HLN.out W11 (below_then HB10.out HB11.out)).mono ?_; rintro e W12 ⟨rfl, hb12⟩; have HB12 := Lib.hid hb12; clear hb12)
              | (have _ := HB10.out; go_at_call 20; refine (HSN2.out W10 HB10.out).mono ?_; rintro e W11 ⟨rfl, hb11⟩; have HB11 := Lib.hid hb11; clear hb11)
              | (go_at_call 12; refine HC9.out.mono ?_; rintro e W10 ⟨rfl, hb10⟩; have e10 := cells_at ((hb10.block _ (Array.getElem?_eq_some_iff.1 HS1.out).1).trans HS1.out) 0 _ rfl; have e11 := cells_at ((hb10.block _ (Array.getElem?_eq_some_iff.1 HS1.out).1).trans HS1.out) 1 _ rfl; have e20 := cells_at ((hb10.block _ (Array.getElem?_eq_some_iff.1 HS2.out).1).trans HS2.out) 0 _ rfl; have e21 := cells_at ((hb10.block _ (Array.getElem?_eq_some_iff.1 HS2.out).1).trans HS2.out) 1 _ rfl; have HB10 := Lib.hid hb10; clear hb10 d10 d11 d20 d21 HC9))
            go_ret
            exact ⟨rfl, below_then HBW.out (below_then HB10.out (below_then HB11.out HB12.out))⟩
          · have HSN := HSM.out
            rw [show decide ((1 : Int) = 0) = false from rfl] at HSN
            have HSN2 := Lib.hid HSN
            clear HSN HSM HTR2 fin
            go_wp2_with (first
              | (have _ := HB11.out; go_at_call 18; refine (HLN.out W11 (below_then HB10.out HB11.out)).mono ?_; rintro e W12 ⟨rfl, hb12⟩; have HB12 := Lib.hid hb12; clear hb12)
              | (have _ := HB10.out; go_at_call 20; refine (HSN2.out W10 HB10.out).mono ?_; rintro e W11 ⟨rfl, hb11⟩; have HB11 := Lib.hid hb11; clear hb11)
              | (go_at_call 12; refine HC9.out.mono ?_; rintro e W10 ⟨rfl, hb10⟩; have e10 := cells_at ((hb10.block _ (Array.getElem?_eq_some_iff.1 HS1.out).1).trans HS1.out) 0 _ rfl; have e11 := cells_at ((hb10.block _ (Array.getElem?_eq_some_iff.1 HS1.out).1).trans HS1.out) 1 _ rfl; have e20 := cells_at ((hb10.block _ (Array.getElem?_eq_some_iff.1 HS2.out).1).trans HS2.out) 0 _ rfl; have e21 := cells_at ((hb10.block _ (Array.getElem?_eq_some_iff.1 HS2.out).1).trans HS2.out) 1 _ rfl; have HB10 := Lib.hid hb10; clear hb10 d10 d11 d20 d21 HC9))
            go_ret
            exact ⟨rfl, below_then HBW.out (below_then HB10.out (below_then HB11.out HB12.out))⟩
end Go.Proofs.YtcoieohbmkjpoaaGreatDoor
