/- StoreAtoms: its walk. -/
import Derived.Test.YtcoieohbmkjpoaaGreatDoorB1S1
import Derived.Test.YtcoieohbmkjpoaaGreatDoorB1Uo
import Derived.Test.YtcoieohbmkjpoaaGreatDoorB1S3
namespace Go.Proofs.YtcoieohbmkjpoaaGreatDoor
open Go.RowKit Go.Shelf Go.Maps
attribute [local go_sem] Oper.semAt_some

theorem rcmp_gen (x y : Ato) (v0 v1 u0 u1 : Value) (w : World) (h : AtS (fun b => b < w.heap.size) w v0 v1 x) (h' : AtS (fun b => b < w.heap.size) w u0 u1 y) (hc : cntA x ≤ 1000000) :
    Calls Tryz.prog 13 #[.agg #[v0, v1], .agg #[u0, u1]] w fun e w' => e = .returned (.int .i64 (cmpA x y)) ∧ Below w.heap.size w w' := rcompareA_any x y v0 v1 u0 u1 w h h' hc
set_option maxRecDepth 100000 in
set_option maxHeartbeats 8000000 in
theorem atoms_any (x y : Ato) (a0 a1 b0 b1 : Value) (w : World) (hT : Tab10 w) (hx : AtS (fun b => b < w.heap.size) w a0 a1 x) (hy : AtS (fun b => b < w.heap.size) w b0 b1 y) :
    Calls Tryz.prog 3 #[.agg #[a0, a1], .agg #[b0, b1]] w fun e w' => e = .returned (.bool true) ∧ Below w.heap.size w w' := by
  obtain ⟨p, us⟩ := x
  obtain ⟨q, vs⟩ := y
  obtain ⟨ax, cx, rfl, rfl⟩ := hx.shape
  obtain ⟨ay, cy, rfl, rfl⟩ := hy.shape
  change Calls Tryz.prog 3 #[.agg #[.string p, .slice ax us.length cx], .agg #[.string q, .slice ay vs.length cy]] w _
  obtain ⟨W, hW⟩ : ∃ W, (w.alloc (.cells #[.string p, .slice ax us.length cx] 24)).alloc (.cells #[.string q, .slice ay vs.length cy] 24) = W := ⟨_, rfl⟩
  obtain ⟨hb, k1, k2⟩ := alloc2 w (.cells #[.string p, .slice ax us.length cx] 24) (.cells #[.string q, .slice ay vs.length cy] 24)
  rw [hW] at hb k1 k2
  have HX := Lib.hid (hx.below hb)
  have HY := Lib.hid (hy.below hb)
  have HT := Lib.hid (hT.below hb)
  have HB := Lib.hid hb
  obtain ⟨m, hm⟩ : ∃ m, w.heap.size = m := ⟨_, rfl⟩
  have HK := Lib.hid (And.intro (hm ▸ k1) (hm ▸ k2))
  clear hx hy hT hb k1 k2
  go_enter Tryz.func3, Tryz.ntmps3
  refine wp_seq_k fun K0 hK0 => ?_
  have HK0 := Lib.hid hK0
  clear hK0
  go_wp2_with fail
  try rw [hW]
  try simp only [hm]
  clear hW
  refine HK0.out _ _ ?_
  clear HK0
  have d10 := cells_at HK.out.1 0 _ rfl
  have d11 := cells_at HK.out.1 1 _ rfl
  have d20 := cells_at HK.out.2 0 _ rfl
  have d21 := cells_at HK.out.2 1 _ rfl
  obtain ⟨W3, hW3⟩ : ∃ X, W.alloc (.cells #[.string p, .slice ax us.length cx, .string q, .slice ay vs.length cy] 24) = X := ⟨_, rfl⟩
  have hb3 : Below W.heap.size W W3 := by rw [← hW3]; exact (Below.refl _ _).alloc (Nat.le_refl _) _
  have hr3 : W3.heap[W.heap.size]? = some (.cells #[.string p, .slice ax us.length cx, .string q, .slice ay vs.length cy] 24 (0, 0)) := by rw [← hW3]; exact World.alloc_heap_new _ _
  have hlst : LstR W3 (.slice (some ⟨W.heap.size, 0, none⟩) 2 2) [(p, us), (q, vs)] := ⟨_, ⟨rfl, Or.inr ⟨W.heap.size, 2, _, rfl, Nat.zero_le _, hr3, Nat.le_refl 2, by unfold maxLen; omega, rfl, rfl⟩⟩,
    ⟨_, _, _, rfl, HX.out.below hb3, _, _, _, rfl, HY.out.below hb3, rfl⟩⟩
  have HG2 := Lib.hid (great_any [(p, us), (q, vs)] _ W3 hlst.rd)
  have HB3 := Lib.hid hb3
  clear hb3 hr3 hlst
  go_wp2_with (go_at_call 8; refine HG2.out.mono ?_)
  clear HG2 hW3 d10 d11 d20 d21
  rintro e w4 ⟨b, rfl, hbf, hb4⟩
  have HB4 := Lib.hid (below_then HB3.out hb4)
  have HBG := Lib.hid hbf
  clear hbf hb4 HB3
  have HAW := Lib.hid (awake11_any w4 (HT.out.below HB4.out))
  cases b with
  | true =>
    go_wp2_with (go_at_call 9; refine HAW.out.mono ?_; clear HAW; rintro e w5 ⟨rfl, hb5⟩; have HB5 := Lib.hid hb5; clear hb5)
    go_ret
    exact ⟨rfl, below_then HB.out (below_then HB4.out HB5.out)⟩
  | false =>
  have hc := (HBG.out (by first | rfl | trivial)).2
  have HCX := Lib.hid (show cntA (p, us) ≤ 1000000 by have := hc (p, us) (by simp); omega)
  have HCY := Lib.hid (show cntA (q, vs) ≤ 1000000 by have := hc (q, vs) (by simp); omega)
  have HX4 := Lib.hid (HX.out.below HB4.out)
  have HY4 := Lib.hid (HY.out.below HB4.out)
  have HT4 := Lib.hid (HT.out.below HB4.out)
  have mv : ∀ {k : Nat} {o : Obj}, W.heap[k]? = some o → w4.heap[k]? = some o := fun h => (HB4.out.block _ (Array.getElem?_eq_some_iff.1 h).1).trans h
  have HR1 := Lib.hid (mv HK.out.1)
  have HR2 := Lib.hid (mv HK.out.2)
  obtain ⟨VX, hVX⟩ : ∃ v, validA (p, us) = v := ⟨_, rfl⟩
  obtain ⟨VY, hVY⟩ : ∃ v, validA (q, vs) = v := ⟨_, rfl⟩
  obtain ⟨X, hX⟩ : ∃ X, cmpA (p, us) (q, vs) = X := ⟨_, rfl⟩
  obtain ⟨Y, hY⟩ : ∃ X, cmpA (q, vs) (p, us) = X := ⟨_, rfl⟩
  have EVX := Lib.hid hVX
  have EVY := Lib.hid hVY
  have EX := Lib.hid hX
  have EY := Lib.hid hY
  clear mv hc hVX hVY hX hY HAW HBG HX HY HT HK
  go_wp2_with fail
  have hst := @FL_grow [fV (.agg #[.string p, .slice ax us.length cx]), fV (.bool VX), fV (.agg #[.string p, .slice ax us.length cx]), fV (.bool VX), fV (.bool true), fV (.bool true), fV (.agg #[.string q, .slice ay vs.length cy]), fV (.bool VY), fV (.agg #[.string q, .slice ay vs.length cy]), fV (.bool VY), fV (.bool true), fV (.bool true), fV (.bool true), fV (.agg #[.string p, .slice ax us.length cx]), fV (.agg #[.string q, .slice ay vs.length cy]), fV (.int .i64 X), fV (.agg #[.string p, .slice ax us.length cx]), fV (.agg #[.string q, .slice ay vs.length cy]), fV (.int .i64 X), fV (.bool true), fV (.bool true), fV (.bool true), fV (.agg #[.string q, .slice ay vs.length cy]), fV (.agg #[.string p, .slice ax us.length cx]), fV (.int .i64 Y), fV (.agg #[.string q, .slice ay vs.length cy]), fV (.agg #[.string p, .slice ax us.length cx]), fV (.int .i64 Y), fV (.bool true), fV (.bool true), fV (.bool true), fV (.bool true), fV (.bool true), fV (.bool true)] (by
    intro F hF
    simp only [List.mem_cons, List.not_mem_nil, or_false] at hF
    rcases hF with rfl | rfl | rfl | rfl | rfl | rfl | rfl | rfl | rfl | rfl | rfl | rfl | rfl | rfl | rfl | rfl | rfl | rfl | rfl | rfl | rfl | rfl | rfl | rfl | rfl | rfl | rfl | rfl | rfl | rfl | rfl | rfl | rfl | rfl <;> first | exact fV_stays _)
  refine wp_region_grow_orB (by kernel_rfl) (FL [fV (.agg #[.string p, .slice ax us.length cx]), fV (.bool VX), fV (.agg #[.string p, .slice ax us.length cx]), fV (.bool VX), fV (.bool true), fV (.bool true), fV (.agg #[.string q, .slice ay vs.length cy]), fV (.bool VY), fV (.agg #[.string q, .slice ay vs.length cy]), fV (.bool VY), fV (.bool true), fV (.bool true), fV (.bool true), fV (.agg #[.string p, .slice ax us.length cx]), fV (.agg #[.string q, .slice ay vs.length cy]), fV (.int .i64 X), fV (.agg #[.string p, .slice ax us.length cx]), fV (.agg #[.string q, .slice ay vs.length cy]), fV (.int .i64 X), fV (.bool true), fV (.bool true), fV (.bool true), fV (.agg #[.string q, .slice ay vs.length cy]), fV (.agg #[.string p, .slice ax us.length cx]), fV (.int .i64 Y), fV (.agg #[.string q, .slice ay vs.length cy]), fV (.agg #[.string p, .slice ax us.length cx]), fV (.int .i64 Y), fV (.bool true), fV (.bool true), fV (.bool true), fV (.bool true), fV (.bool true), fV (.bool true)]) hst (by kernel_rfl) (steps_or ?_) ?_
  · refine ⟨?_, ?_, ?_, ?_, ?_, ?_, ?_, ?_, ?_, ?_, ?_, ?_, ?_, ?_, ?_, ?_, ?_, ?_, ?_, ?_, ?_, ?_, ?_, ?_, ?_, ?_, ?_, ?_, ?_, ?_, ?_, ?_, ?_, ?_, trivial⟩
    · intro a wx hb hd hs ho hp
      refine Or.inl ⟨rfl, ?_⟩
      have h2 : a.tmps.getD 2 undef = .pointer (some ⟨m, 0, none⟩) := (ho 2 (by kernel_rfl)).trans rfl
      have hx := (hb.block m (Array.getElem?_eq_some_iff.1 HR1.out).1).trans HR1.out
      have s2 := qslot_of (hs.trans (rfl : _ = 43)) (by decide) h2
      have x0 := cells_at hx 0 _ rfl
      have x1 := cells_at hx 1 _ rfl
      unfold Oper.wp
      go_simp
      exact Stepped.at (v := .agg #[.string p, .slice ax us.length cx]) (by first | rfl | simp) hd (Below.refl _ _) rfl
    · intro a wx hb hd hs ho hp
      refine Or.inl ⟨rfl, ?_⟩
      have h10 : a.tmps.getD 10 undef = .agg #[.string p, .slice ax us.length cx] := facts_at hp 0 10 (by kernel_rfl)
      have hx := validA_gen (p, us) _ _ wx (HX4.out.below hb) HCX.out
      rw [EVX.out] at hx
      unfold Oper.wp
      go_simp
      refine (hx).mono ?_
      rintro e w9 ⟨rfl, hb9⟩
      exact Stepped.at (v := .bool VX) rfl hd (hb9) rfl
    · intro a wx hb hd hs ho hp
      refine Or.inl ⟨rfl, ?_⟩
      have h2 : a.tmps.getD 2 undef = .pointer (some ⟨m, 0, none⟩) := (ho 2 (by kernel_rfl)).trans rfl
      have hx := (hb.block m (Array.getElem?_eq_some_iff.1 HR1.out).1).trans HR1.out
      have s2 := qslot_of (hs.trans (rfl : _ = 43)) (by decide) h2
      have x0 := cells_at hx 0 _ rfl
      have x1 := cells_at hx 1 _ rfl
      unfold Oper.wp
      go_simp
      exact Stepped.at (v := .agg #[.string p, .slice ax us.length cx]) (by first | rfl | simp) hd (Below.refl _ _) rfl
    · intro a wx hb hd hs ho hp
      refine Or.inl ⟨rfl, ?_⟩
      have h12 : a.tmps.getD 12 undef = .agg #[.string p, .slice ax us.length cx] := facts_at hp 2 12 (by kernel_rfl)
      have hx := rvalidA_any (p, us) _ _ wx (HX4.out.below hb) HCX.out
      rw [EVX.out] at hx
      unfold Oper.wp
      go_simp
      refine (hx).mono ?_
      rintro e w9 ⟨rfl, hb9⟩
      exact Stepped.at (v := .bool VX) rfl hd (hb9) rfl
    · intro a wx hb hd hs ho hp
      refine Or.inl ⟨rfl, ?_⟩
      have h11 : a.tmps.getD 11 undef = .bool VX := facts_at hp 1 11 (by kernel_rfl)
      have h13 : a.tmps.getD 13 undef = .bool VX := facts_at hp 3 13 (by kernel_rfl)
      unfold Oper.wp
      go_simp
      exact Stepped.at (v := .bool true) (by first | rfl | simp) hd (Below.refl _ _) rfl
    · intro a wx hb hd hs ho hp
      refine Or.inl ⟨rfl, ?_⟩
      have h14 : a.tmps.getD 14 undef = .bool true := facts_at hp 4 14 (by kernel_rfl)
      unfold Oper.wp
      go_simp
      exact Stepped.at (v := .bool true) (by first | rfl | simp) hd (Below.refl _ _) rfl
    · intro a wx hb hd hs ho hp
      refine Or.inl ⟨wanted_yes rfl (yielded_at (k := 5) (d := 15) (by kernel_rfl) (show a.tmps.getD 15 undef = _ from facts_at hp 5 15 (by kernel_rfl))), ?_⟩
      have h3 : a.tmps.getD 3 undef = .pointer (some ⟨m + 1, 0, none⟩) := (ho 3 (by kernel_rfl)).trans rfl
      have hx := (hb.block (m + 1) (Array.getElem?_eq_some_iff.1 HR2.out).1).trans HR2.out
      have s3 := qslot_of (hs.trans (rfl : _ = 43)) (by decide) h3
      have x0 := cells_at hx 0 _ rfl
      have x1 := cells_at hx 1 _ rfl
      unfold Oper.wp
      go_simp
      exact Stepped.at (v := .agg #[.string q, .slice ay vs.length cy]) (by first | rfl | simp) hd (Below.refl _ _) rfl
    · intro a wx hb hd hs ho hp
      refine Or.inl ⟨wanted_yes rfl (yielded_at (k := 5) (d := 15) (by kernel_rfl) (show a.tmps.getD 15 undef = _ from facts_at hp 5 15 (by kernel_rfl))), ?_⟩
      have h16 : a.tmps.getD 16 undef = .agg #[.string q, .slice ay vs.length cy] := facts_at hp 6 16 (by kernel_rfl)
      have hx := validA_gen (q, vs) _ _ wx (HY4.out.below hb) HCY.out
      rw [EVY.out] at hx
      unfold Oper.wp
      go_simp
      refine (hx).mono ?_
      rintro e w9 ⟨rfl, hb9⟩
      exact Stepped.at (v := .bool VY) rfl hd (hb9) rfl
    · intro a wx hb hd hs ho hp
      refine Or.inl ⟨wanted_yes rfl (yielded_at (k := 5) (d := 15) (by kernel_rfl) (show a.tmps.getD 15 undef = _ from facts_at hp 5 15 (by kernel_rfl))), ?_⟩
      have h3 : a.tmps.getD 3 undef = .pointer (some ⟨m + 1, 0, none⟩) := (ho 3 (by kernel_rfl)).trans rfl
      have hx := (hb.block (m + 1) (Array.getElem?_eq_some_iff.1 HR2.out).1).trans HR2.out
      have s3 := qslot_of (hs.trans (rfl : _ = 43)) (by decide) h3
      have x0 := cells_at hx 0 _ rfl
      have x1 := cells_at hx 1 _ rfl
      unfold Oper.wp
      go_simp
      exact Stepped.at (v := .agg #[.string q, .slice ay vs.length cy]) (by first | rfl | simp) hd (Below.refl _ _) rfl
    · intro a wx hb hd hs ho hp
      refine Or.inl ⟨wanted_yes rfl (yielded_at (k := 5) (d := 15) (by kernel_rfl) (show a.tmps.getD 15 undef = _ from facts_at hp 5 15 (by kernel_rfl))), ?_⟩
      have h18 : a.tmps.getD 18 undef = .agg #[.string q, .slice ay vs.length cy] := facts_at hp 8 18 (by kernel_rfl)
      have hx := rvalidA_any (q, vs) _ _ wx (HY4.out.below hb) HCY.out
      rw [EVY.out] at hx
      unfold Oper.wp
      go_simp
      refine (hx).mono ?_
      rintro e w9 ⟨rfl, hb9⟩
      exact Stepped.at (v := .bool VY) rfl hd (hb9) rfl
    · intro a wx hb hd hs ho hp
      refine Or.inl ⟨wanted_yes rfl (yielded_at (k := 5) (d := 15) (by kernel_rfl) (show a.tmps.getD 15 undef = _ from facts_at hp 5 15 (by kernel_rfl))), ?_⟩
      have h17 : a.tmps.getD 17 undef = .bool VY := facts_at hp 7 17 (by kernel_rfl)
      have h19 : a.tmps.getD 19 undef = .bool VY := facts_at hp 9 19 (by kernel_rfl)
      unfold Oper.wp
      go_simp
      exact Stepped.at (v := .bool true) (by first | rfl | simp) hd (Below.refl _ _) rfl
    · intro a wx hb hd hs ho hp
      refine Or.inl ⟨rfl, ?_⟩
      have h15 : a.tmps.getD 15 undef = .bool true := facts_at hp 5 15 (by kernel_rfl)
      have h20 : a.tmps.getD 20 undef = .bool true := facts_at hp 10 20 (by kernel_rfl)
      unfold Oper.wp
      go_simp
      exact Stepped.at (v := .bool true) (by first | rfl | simp) hd (Below.refl _ _) rfl
    · intro a wx hb hd hs ho hp
      refine Or.inl ⟨rfl, ?_⟩
      have h21 : a.tmps.getD 21 undef = .bool true := facts_at hp 11 21 (by kernel_rfl)
      unfold Oper.wp
      go_simp
      exact Stepped.at (v := .bool true) (by first | rfl | simp) hd (Below.refl _ _) rfl
    · intro a wx hb hd hs ho hp
      refine Or.inl ⟨wanted_yes rfl (yielded_at (k := 12) (d := 22) (by kernel_rfl) (show a.tmps.getD 22 undef = _ from facts_at hp 12 22 (by kernel_rfl))), ?_⟩
      have h2 : a.tmps.getD 2 undef = .pointer (some ⟨m, 0, none⟩) := (ho 2 (by kernel_rfl)).trans rfl
      have hx := (hb.block m (Array.getElem?_eq_some_iff.1 HR1.out).1).trans HR1.out
      have s2 := qslot_of (hs.trans (rfl : _ = 43)) (by decide) h2
      have x0 := cells_at hx 0 _ rfl
      have x1 := cells_at hx 1 _ rfl
      unfold Oper.wp
      go_simp
      exact Stepped.at (v := .agg #[.string p, .slice ax us.length cx]) (by first | rfl | simp) hd (Below.refl _ _) rfl
    · intro a wx hb hd hs ho hp
      refine Or.inl ⟨wanted_yes rfl (yielded_at (k := 12) (d := 22) (by kernel_rfl) (show a.tmps.getD 22 undef = _ from facts_at hp 12 22 (by kernel_rfl))), ?_⟩
      have h3 : a.tmps.getD 3 undef = .pointer (some ⟨m + 1, 0, none⟩) := (ho 3 (by kernel_rfl)).trans rfl
      have hx := (hb.block (m + 1) (Array.getElem?_eq_some_iff.1 HR2.out).1).trans HR2.out
      have s3 := qslot_of (hs.trans (rfl : _ = 43)) (by decide) h3
      have x0 := cells_at hx 0 _ rfl
      have x1 := cells_at hx 1 _ rfl
      unfold Oper.wp
      go_simp
      exact Stepped.at (v := .agg #[.string q, .slice ay vs.length cy]) (by first | rfl | simp) hd (Below.refl _ _) rfl
    · intro a wx hb hd hs ho hp
      refine Or.inl ⟨wanted_yes rfl (yielded_at (k := 12) (d := 22) (by kernel_rfl) (show a.tmps.getD 22 undef = _ from facts_at hp 12 22 (by kernel_rfl))), ?_⟩
      have h23 : a.tmps.getD 23 undef = .agg #[.string p, .slice ax us.length cx] := facts_at hp 13 23 (by kernel_rfl)
      have h24 : a.tmps.getD 24 undef = .agg #[.string q, .slice ay vs.length cy] := facts_at hp 14 24 (by kernel_rfl)
      have hx := compareA_gen (p, us) (q, vs) _ _ _ _ wx (HX4.out.below hb) (HY4.out.below hb)
      rw [EX.out] at hx
      unfold Oper.wp
      go_simp
      refine (hx).mono ?_
      rintro e w9 ⟨rfl, hb9⟩
      exact Stepped.at (v := .int .i64 X) rfl hd (hb9) rfl
    · intro a wx hb hd hs ho hp
      refine Or.inl ⟨wanted_yes rfl (yielded_at (k := 12) (d := 22) (by kernel_rfl) (show a.tmps.getD 22 undef = _ from facts_at hp 12 22 (by kernel_rfl))), ?_⟩
      have h2 : a.tmps.getD 2 undef = .pointer (some ⟨m, 0, none⟩) := (ho 2 (by kernel_rfl)).trans rfl
      have hx := (hb.block m (Array.getElem?_eq_some_iff.1 HR1.out).1).trans HR1.out
      have s2 := qslot_of (hs.trans (rfl : _ = 43)) (by decide) h2
      have x0 := cells_at hx 0 _ rfl
      have x1 := cells_at hx 1 _ rfl
      unfold Oper.wp
      go_simp
      exact Stepped.at (v := .agg #[.string p, .slice ax us.length cx]) (by first | rfl | simp) hd (Below.refl _ _) rfl
    · intro a wx hb hd hs ho hp
      refine Or.inl ⟨wanted_yes rfl (yielded_at (k := 12) (d := 22) (by kernel_rfl) (show a.tmps.getD 22 undef = _ from facts_at hp 12 22 (by kernel_rfl))), ?_⟩
      have h3 : a.tmps.getD 3 undef = .pointer (some ⟨m + 1, 0, none⟩) := (ho 3 (by kernel_rfl)).trans rfl
      have hx := (hb.block (m + 1) (Array.getElem?_eq_some_iff.1 HR2.out).1).trans HR2.out
      have s3 := qslot_of (hs.trans (rfl : _ = 43)) (by decide) h3
      have x0 := cells_at hx 0 _ rfl
      have x1 := cells_at hx 1 _ rfl
      unfold Oper.wp
      go_simp
      exact Stepped.at (v := .agg #[.string q, .slice ay vs.length cy]) (by first | rfl | simp) hd (Below.refl _ _) rfl
    · intro a wx hb hd hs ho hp
      refine Or.inl ⟨wanted_yes rfl (yielded_at (k := 12) (d := 22) (by kernel_rfl) (show a.tmps.getD 22 undef = _ from facts_at hp 12 22 (by kernel_rfl))), ?_⟩
      have h26 : a.tmps.getD 26 undef = .agg #[.string p, .slice ax us.length cx] := facts_at hp 16 26 (by kernel_rfl)
      have h27 : a.tmps.getD 27 undef = .agg #[.string q, .slice ay vs.length cy] := facts_at hp 17 27 (by kernel_rfl)
      have hx := rcmp_gen (p, us) (q, vs) _ _ _ _ wx (HX4.out.below hb) (HY4.out.below hb) HCX.out
      rw [EX.out] at hx
      unfold Oper.wp
      go_simp
      refine (hx).mono ?_
      rintro e w9 ⟨rfl, hb9⟩
      exact Stepped.at (v := .int .i64 X) rfl hd (hb9) rfl
    · intro a wx hb hd hs ho hp
      refine Or.inl ⟨wanted_yes rfl (yielded_at (k := 12) (d := 22) (by kernel_rfl) (show a.tmps.getD 22 undef = _ from facts_at hp 12 22 (by kernel_rfl))), ?_⟩
      have h25 : a.tmps.getD 25 undef = .int .i64 X := facts_at hp 15 25 (by kernel_rfl)
      have h28 : a.tmps.getD 28 undef = .int .i64 X := facts_at hp 18 28 (by kernel_rfl)
      unfold Oper.wp
      go_simp
      exact Stepped.at (v := .bool true) (by first | rfl | simp) hd (Below.refl _ _) rfl
    · intro a wx hb hd hs ho hp
      refine Or.inl ⟨rfl, ?_⟩
      have h22 : a.tmps.getD 22 undef = .bool true := facts_at hp 12 22 (by kernel_rfl)
      have h29 : a.tmps.getD 29 undef = .bool true := facts_at hp 19 29 (by kernel_rfl)
      unfold Oper.wp
      go_simp
      exact Stepped.at (v := .bool true) (by first | rfl | simp) hd (Below.refl _ _) rfl
    · intro a wx hb hd hs ho hp
      refine Or.inl ⟨rfl, ?_⟩
      have h30 : a.tmps.getD 30 undef = .bool true := facts_at hp 20 30 (by kernel_rfl)
      unfold Oper.wp
      go_simp
      exact Stepped.at (v := .bool true) (by first | rfl | simp) hd (Below.refl _ _) rfl
    · intro a wx hb hd hs ho hp
      refine Or.inl ⟨wanted_yes rfl (yielded_at (k := 21) (d := 31) (by kernel_rfl) (show a.tmps.getD 31 undef = _ from facts_at hp 21 31 (by kernel_rfl))), ?_⟩
      have h3 : a.tmps.getD 3 undef = .pointer (some ⟨m + 1, 0, none⟩) := (ho 3 (by kernel_rfl)).trans rfl
      have hx := (hb.block (m + 1) (Array.getElem?_eq_some_iff.1 HR2.out).1).trans HR2.out
      have s3 := qslot_of (hs.trans (rfl : _ = 43)) (by decide) h3
      have x0 := cells_at hx 0 _ rfl
      have x1 := cells_at hx 1 _ rfl
      unfold Oper.wp
      go_simp
      exact Stepped.at (v := .agg #[.string q, .slice ay vs.length cy]) (by first | rfl | simp) hd (Below.refl _ _) rfl
    · intro a wx hb hd hs ho hp
      refine Or.inl ⟨wanted_yes rfl (yielded_at (k := 21) (d := 31) (by kernel_rfl) (show a.tmps.getD 31 undef = _ from facts_at hp 21 31 (by kernel_rfl))), ?_⟩
      have h2 : a.tmps.getD 2 undef = .pointer (some ⟨m, 0, none⟩) := (ho 2 (by kernel_rfl)).trans rfl
      have hx := (hb.block m (Array.getElem?_eq_some_iff.1 HR1.out).1).trans HR1.out
      have s2 := qslot_of (hs.trans (rfl : _ = 43)) (by decide) h2
      have x0 := cells_at hx 0 _ rfl
      have x1 := cells_at hx 1 _ rfl
      unfold Oper.wp
      go_simp
      exact Stepped.at (v := .agg #[.string p, .slice ax us.length cx]) (by first | rfl | simp) hd (Below.refl _ _) rfl
    · intro a wx hb hd hs ho hp
      refine Or.inl ⟨wanted_yes rfl (yielded_at (k := 21) (d := 31) (by kernel_rfl) (show a.tmps.getD 31 undef = _ from facts_at hp 21 31 (by kernel_rfl))), ?_⟩
      have h32 : a.tmps.getD 32 undef = .agg #[.string q, .slice ay vs.length cy] := facts_at hp 22 32 (by kernel_rfl)
      have h33 : a.tmps.getD 33 undef = .agg #[.string p, .slice ax us.length cx] := facts_at hp 23 33 (by kernel_rfl)
      have hx := compareA_gen (q, vs) (p, us) _ _ _ _ wx (HY4.out.below hb) (HX4.out.below hb)
      rw [EY.out] at hx
      unfold Oper.wp
      go_simp
      refine (hx).mono ?_
      rintro e w9 ⟨rfl, hb9⟩
      exact Stepped.at (v := .int .i64 Y) rfl hd (hb9) rfl
    · intro a wx hb hd hs ho hp
      refine Or.inl ⟨wanted_yes rfl (yielded_at (k := 21) (d := 31) (by kernel_rfl) (show a.tmps.getD 31 undef = _ from facts_at hp 21 31 (by kernel_rfl))), ?_⟩
      have h3 : a.tmps.getD 3 undef = .pointer (some ⟨m + 1, 0, none⟩) := (ho 3 (by kernel_rfl)).trans rfl
      have hx := (hb.block (m + 1) (Array.getElem?_eq_some_iff.1 HR2.out).1).trans HR2.out
      have s3 := qslot_of (hs.trans (rfl : _ = 43)) (by decide) h3
      have x0 := cells_at hx 0 _ rfl
      have x1 := cells_at hx 1 _ rfl
      unfold Oper.wp
      go_simp
      exact Stepped.at (v := .agg #[.string q, .slice ay vs.length cy]) (by first | rfl | simp) hd (Below.refl _ _) rfl
    · intro a wx hb hd hs ho hp
      refine Or.inl ⟨wanted_yes rfl (yielded_at (k := 21) (d := 31) (by kernel_rfl) (show a.tmps.getD 31 undef = _ from facts_at hp 21 31 (by kernel_rfl))), ?_⟩
      have h2 : a.tmps.getD 2 undef = .pointer (some ⟨m, 0, none⟩) := (ho 2 (by kernel_rfl)).trans rfl
      have hx := (hb.block m (Array.getElem?_eq_some_iff.1 HR1.out).1).trans HR1.out
      have s2 := qslot_of (hs.trans (rfl : _ = 43)) (by decide) h2
      have x0 := cells_at hx 0 _ rfl
      have x1 := cells_at hx 1 _ rfl
      unfold Oper.wp
      go_simp
      exact Stepped.at (v := .agg #[.string p, .slice ax us.length cx]) (by first | rfl | simp) hd (Below.refl _ _) rfl
    · intro a wx hb hd hs ho hp
      refine Or.inl ⟨wanted_yes rfl (yielded_at (k := 21) (d := 31) (by kernel_rfl) (show a.tmps.getD 31 undef = _ from facts_at hp 21 31 (by kernel_rfl))), ?_⟩
      have h35 : a.tmps.getD 35 undef = .agg #[.string q, .slice ay vs.length cy] := facts_at hp 25 35 (by kernel_rfl)
      have h36 : a.tmps.getD 36 undef = .agg #[.string p, .slice ax us.length cx] := facts_at hp 26 36 (by kernel_rfl)
      have hx := rcmp_gen (q, vs) (p, us) _ _ _ _ wx (HY4.out.below hb) (HX4.out.below hb) HCY.out
      rw [EY.out] at hx
      unfold Oper.wp
      go_simp
      refine (hx).mono ?_
      rintro e w9 ⟨rfl, hb9⟩
      exact Stepped.at (v := .int .i64 Y) rfl hd (hb9) rfl
    · intro a wx hb hd hs ho hp
      refine Or.inl ⟨wanted_yes rfl (yielded_at (k := 21) (d := 31) (by kernel_rfl) (show a.tmps.getD 31 undef = _ from facts_at hp 21 31 (by kernel_rfl))), ?_⟩
      have h34 : a.tmps.getD 34 undef = .int .i64 Y := facts_at hp 24 34 (by kernel_rfl)
      have h37 : a.tmps.getD 37 undef = .int .i64 Y := facts_at hp 27 37 (by kernel_rfl)
      unfold Oper.wp
      go_simp
      exact Stepped.at (v := .bool true) (by first | rfl | simp) hd (Below.refl _ _) rfl
    · intro a wx hb hd hs ho hp
      refine Or.inl ⟨rfl, ?_⟩
      have h31 : a.tmps.getD 31 undef = .bool true := facts_at hp 21 31 (by kernel_rfl)
      have h38 : a.tmps.getD 38 undef = .bool true := facts_at hp 28 38 (by kernel_rfl)
      unfold Oper.wp
      go_simp
      exact Stepped.at (v := .bool true) (by first | rfl | simp) hd (Below.refl _ _) rfl
    · intro a wx hb hd hs ho hp
      refine Or.inl ⟨rfl, ?_⟩
      have h39 : a.tmps.getD 39 undef = .bool true := facts_at hp 29 39 (by kernel_rfl)
      unfold Oper.wp
      go_simp
      exact Stepped.at (v := .bool true) (by first | rfl | simp) hd (Below.refl _ _) rfl
    · intro a wx hb hd hs ho hp
      refine Or.inl ⟨wanted_yes rfl (yielded_at (k := 30) (d := 40) (by kernel_rfl) (show a.tmps.getD 40 undef = _ from facts_at hp 30 40 (by kernel_rfl))), ?_⟩
      unfold Oper.wp
      go_simp
      refine (awake11_any wx (HT4.out.below hb)).mono ?_
      rintro e w9 ⟨rfl, hb9⟩
      exact Stepped.at (v := .bool true) rfl hd (hb9) rfl
    · intro a wx hb hd hs ho hp
      refine Or.inl ⟨rfl, ?_⟩
      have h40 : a.tmps.getD 40 undef = .bool true := facts_at hp 30 40 (by kernel_rfl)
      have h41 : a.tmps.getD 41 undef = .bool true := facts_at hp 31 41 (by kernel_rfl)
      unfold Oper.wp
      go_simp
      exact Stepped.at (v := .bool true) (by first | rfl | simp) hd (Below.refl _ _) rfl
    · intro a wx hb hd hs ho hp
      refine Or.inl ⟨rfl, ?_⟩
      have h42 : a.tmps.getD 42 undef = .bool true := facts_at hp 32 42 (by kernel_rfl)
      unfold Oper.wp
      go_simp
      exact Stepped.at (v := .bool true) (by first | rfl | simp) hd (Below.refl _ _) rfl
  intro ac W9 hJ
  obtain ⟨u10, f10⟩ : ∃ u, ac.tmps.getD 10 undef = u := ⟨_, rfl⟩
  obtain ⟨u11, f11⟩ : ∃ u, ac.tmps.getD 11 undef = u := ⟨_, rfl⟩
  obtain ⟨u12, f12⟩ : ∃ u, ac.tmps.getD 12 undef = u := ⟨_, rfl⟩
  obtain ⟨u13, f13⟩ : ∃ u, ac.tmps.getD 13 undef = u := ⟨_, rfl⟩
  obtain ⟨u14, f14⟩ : ∃ u, ac.tmps.getD 14 undef = u := ⟨_, rfl⟩
  obtain ⟨u15, f15⟩ : ∃ u, ac.tmps.getD 15 undef = u := ⟨_, rfl⟩
  obtain ⟨u16, f16⟩ : ∃ u, ac.tmps.getD 16 undef = u := ⟨_, rfl⟩
  obtain ⟨u17, f17⟩ : ∃ u, ac.tmps.getD 17 undef = u := ⟨_, rfl⟩
  obtain ⟨u18, f18⟩ : ∃ u, ac.tmps.getD 18 undef = u := ⟨_, rfl⟩
  obtain ⟨u19, f19⟩ : ∃ u, ac.tmps.getD 19 undef = u := ⟨_, rfl⟩
  obtain ⟨u20, f20⟩ : ∃ u, ac.tmps.getD 20 undef = u := ⟨_, rfl⟩
  obtain ⟨u21, f21⟩ : ∃ u, ac.tmps.getD 21 undef = u := ⟨_, rfl⟩
  obtain ⟨u22, f22⟩ : ∃ u, ac.tmps.getD 22 undef = u := ⟨_, rfl⟩
  obtain ⟨u23, f23⟩ : ∃ u, ac.tmps.getD 23 undef = u := ⟨_, rfl⟩
  obtain ⟨u24, f24⟩ : ∃ u, ac.tmps.getD 24 undef = u := ⟨_, rfl⟩
  obtain ⟨u25, f25⟩ : ∃ u, ac.tmps.getD 25 undef = u := ⟨_, rfl⟩
  obtain ⟨u26, f26⟩ : ∃ u, ac.tmps.getD 26 undef = u := ⟨_, rfl⟩
  obtain ⟨u27, f27⟩ : ∃ u, ac.tmps.getD 27 undef = u := ⟨_, rfl⟩
  obtain ⟨u28, f28⟩ : ∃ u, ac.tmps.getD 28 undef = u := ⟨_, rfl⟩
  obtain ⟨u29, f29⟩ : ∃ u, ac.tmps.getD 29 undef = u := ⟨_, rfl⟩
  obtain ⟨u30, f30⟩ : ∃ u, ac.tmps.getD 30 undef = u := ⟨_, rfl⟩
  obtain ⟨u31, f31⟩ : ∃ u, ac.tmps.getD 31 undef = u := ⟨_, rfl⟩
  obtain ⟨u32, f32⟩ : ∃ u, ac.tmps.getD 32 undef = u := ⟨_, rfl⟩
  obtain ⟨u33, f33⟩ : ∃ u, ac.tmps.getD 33 undef = u := ⟨_, rfl⟩
  obtain ⟨u34, f34⟩ : ∃ u, ac.tmps.getD 34 undef = u := ⟨_, rfl⟩
  obtain ⟨u35, f35⟩ : ∃ u, ac.tmps.getD 35 undef = u := ⟨_, rfl⟩
  obtain ⟨u36, f36⟩ : ∃ u, ac.tmps.getD 36 undef = u := ⟨_, rfl⟩
  obtain ⟨u37, f37⟩ : ∃ u, ac.tmps.getD 37 undef = u := ⟨_, rfl⟩
  obtain ⟨u38, f38⟩ : ∃ u, ac.tmps.getD 38 undef = u := ⟨_, rfl⟩
  obtain ⟨u39, f39⟩ : ∃ u, ac.tmps.getD 39 undef = u := ⟨_, rfl⟩
  obtain ⟨u40, f40⟩ : ∃ u, ac.tmps.getD 40 undef = u := ⟨_, rfl⟩
  obtain ⟨u41, f41⟩ : ∃ u, ac.tmps.getD 41 undef = u := ⟨_, rfl⟩
  obtain ⟨u42, f42⟩ : ∃ u, ac.tmps.getD 42 undef = u := ⟨_, rfl⟩
  have f4 : ac.tmps.getD 4 undef = .bool true := hJ.at_end 33 4 (by kernel_rfl)
  have hBelow := hJ.below
  obtain ⟨TT, DD⟩ := ac
  obtain rfl : DD = [] := hJ.defers
  have hE := slots_merge [false, false, false, false, true, false, false, false, false, false, true, true, true, true, true, true, true, true, true, true, true, true, true, true, true, true, true, true, true, true, true, true, true, true, true, true, true, true, true, true, true, true, true] 43 hJ.tmps rfl (by kernel_rfl) hJ.outer
  simp only [mergeFrom, Nat.zero_add, Nat.reduceAdd, f10, f11, f12, f13, f14, f15, f16, f17, f18, f19, f20, f21, f22, f23, f24, f25, f26, f27, f28, f29, f30, f31, f32, f33, f34, f35, f36, f37, f38, f39, f40, f41, f42, f4] at hE
  clear hst hJ f10 f11 f12 f13 f14 f15 f16 f17 f18 f19 f20 f21 f22 f23 f24 f25 f26 f27 f28 f29 f30 f31 f32 f33 f34 f35 f36 f37 f38 f39 f40 f41 f42 f4
  subst hE
  have HBZ := Lib.hid (below_then HB.out (below_then HB4.out hBelow))
  clear hBelow
  go_wp2
  go_ret
  exact ⟨rfl, HBZ.out⟩
end Go.Proofs.YtcoieohbmkjpoaaGreatDoor
