/- The store's functions where there is no store. -/
import Derived.Test.YtcoieohbmkjpoaaGreatDoorB1SG
namespace Go.Proofs.YtcoieohbmkjpoaaGreatDoor
open Go.RowKit Go.Shelf Go.Maps
attribute [local go_sem] Oper.semAt_some

theorem NoSt.below {w w' : World} {v : Value} (h : NoSt w v) (hb : Below w.heap.size w w') : NoSt w' v := h.imp id fun ⟨Z, e, hc⟩ => ⟨Z, e, (hb.cell (block_lt_of_cell hc)).trans hc⟩
/-- An empty slice. -/
def Emp (v : Value) : Prop := ∃ a c, v = .slice a 0 c
def EmpR (w : World) (e : Ending) (w' : World) : Prop := ∃ v, e = .returned v ∧ Emp v ∧ Below w.heap.size w w'
theorem emp_of {w w' : World} {v : Value} (h : ResA w w' v []) : Emp v := by
  obtain ⟨a, c, e⟩ := h.read.shape
  exact ⟨a, c, e⟩
theorem look_s (p : ByteArray) (n : Nat) (wx : World) : (Instr.lookup 54 (.map none) (.agg #[.string p, .int .i64 n]) false).run Tryz.prog wx = .ok (.slice none 0 0) wx := by kernel_rfl
theorem look_p (p : ByteArray) (n : Nat) (k : Int) (s : ByteArray) (wx : World) : (Instr.lookup 55 (.map none) (.agg #[.string p, .int .i64 n, .int .i64 k, .string s]) false).run Tryz.prog wx = .ok (.slice none 0 0) wx := by kernel_rfl
theorem look_n (s : ByteArray) (wx : World) : (Instr.lookup 53 (.map none) (.string s) true).run Tryz.prog wx = .ok (.tuple #[.int .i64 0, .bool false]) wx := by kernel_rfl
theorem all_no (v : Value) (g : Sig) (w : World) (h : NoSt w v) : Calls Tryz.prog 22 #[v, .agg #[.string g.1, .int .i64 g.2]] w (EmpR w) := by
  have hx := all_gen v none 0 0 none none none [] [] g w (fun w' hb => content_no v w' (h.below hb)) (LstR.nil w) (fun wx _ => ⟨_, look_s g.1 g.2 wx, World.ownsRow_nil _ _ _ _⟩) (by simp) (by simp) (by simp)
  refine hx.mono ?_
  rintro e w' ⟨u, rfl, h1, h2⟩
  exact ⟨u, rfl, emp_of h1, h2⟩
theorem find_no (v : Value) (g : Sig) (arg : Int) (t : Tm) (c0 c1 c2 c3 : Value) (w : World) (h : NoSt w v) (htm : IsTm w.heap.size w c0 c1 c2 c3 t) (htc : t.count ≤ 1000000) (hT : Tab10 w) :
    Calls Tryz.prog 24 #[v, .agg #[.string g.1, .int .i64 g.2], .int .i64 arg, .agg #[c0, c1, c2, c3]] w (EmpR w) := by
  have hx := find_gen v none 0 0 none none none [] [] g arg t c0 c1 c2 c3 w (fun w' hb => content_no v w' (h.below hb)) (LstR.nil w) (fun wx _ => ⟨_, look_p g.1 g.2 arg t.str wx, World.ownsRow_nil _ _ _ _⟩) (by simp) (by simp) (by simp) htm htc hT
  refine hx.mono ?_
  rintro e w' ⟨u, rfl, h1, h2⟩
  exact ⟨u, rfl, emp_of h1, h2⟩
theorem sorted_no (v : Value) (w : World) (h : NoSt w v) : Calls Tryz.prog 25 #[v] w (EmpR w) := by
  have hx := sorted_gen v none 0 0 none none none [] w (content_no v w h) (LstR.nil w) (by simp) (by simp) (by simp)
  refine hx.mono ?_
  rintro e w' ⟨u, is, rfl, h1, h2, h3⟩
  have hn : is = [] := by have := sortedN_len h2; simpa using this
  subst hn
  exact ⟨u, rfl, emp_of h1, h3⟩
theorem sigs_no (v : Value) (w : World) (h : NoSt w v) : Calls Tryz.prog 29 #[v] w (EmpR w) := by
  have hx := sigs_gen v none 0 0 none none none [] w (content_no v w h) (fun w1 Bk _ hB => collectN_any Bk w1 hB) (fun xs _ hm => by
    cases xs with
    | nil => simp
    | cons a l => exact absurd (hm a (by simp)) (by simp))
  refine hx.mono ?_
  rintro e w' ⟨u, rfl, ys, h1, _, _, h4, h5⟩
  have hn : ys = [] := by
    cases ys with
    | nil => rfl
    | cons a l => exact absurd ((h1 a).1 (by simp)) (by simp)
  subst hn
  obtain ⟨a, c, e⟩ := ownsRow_slice h4
  exact ⟨u, rfl, ⟨a, c, e⟩, h5⟩
set_option maxRecDepth 100000 in
set_option maxHeartbeats 1000000 in
theorem add_no (x : Ato) (v v0 v1 : Value) (w : World) (h : NoSt w v) (hx : AtS (fun b => b < w.heap.size) w v0 v1 x) : Calls Tryz.prog 15 #[v, .agg #[v0, v1]] w fun e w' => e = .returned (.tuple #[.bool false, .int .i64 1]) ∧ Below w.heap.size w w' := by
  obtain ⟨p, us⟩ := x
  obtain ⟨a, c, rfl, rfl⟩ := hx.shape
  obtain ⟨W, hW⟩ : ∃ X, w.alloc (.cells #[.string p, .slice a us.length c] 24) = X := ⟨_, rfl⟩
  have hb : Below w.heap.size w W := by rw [← hW]; exact (Below.refl _ _).alloc (Nat.le_refl _) _
  have HM := Lib.hid (made_no v W (h.below hb))
  have HB := Lib.hid hb
  clear h hx hb
  show Calls Tryz.prog 15 #[v, .agg #[.string p, .slice a us.length c]] w _
  go_enter Tryz.func15, Tryz.ntmps15
  go_wp2_with (go_at_call 50; refine HM.out.mono ?_; rintro e w1 ⟨rfl, rfl⟩)
  go_returns
  exact ⟨rfl, HB.out⟩
set_option maxRecDepth 100000 in
set_option maxHeartbeats 1000000 in
theorem at_no (v : Value) (n : Int) (w : World) (h : NoSt w v) : Calls Tryz.prog 19 #[v, .int .i64 n] w fun e w' => e = .returned (.tuple #[.agg #[.string ⟨#[]⟩, .slice none 0 0], .int .i64 1]) ∧ Below w.heap.size w w' := by
  obtain ⟨W, hW⟩ : ∃ X, w.alloc (.cells #[.string ⟨#[]⟩, .slice none 0 0] 24) = X := ⟨_, rfl⟩
  have hb : Below w.heap.size w W := by rw [← hW]; exact (Below.refl _ _).alloc (Nat.le_refl _) _
  have hr : W.heap[w.heap.size]? = some (.cells #[.string ⟨#[]⟩, .slice none 0 0] 24 (0, 0)) := by rw [← hW]; exact World.alloc_heap_new _ _
  have HM := Lib.hid (made_no v W (h.below hb))
  have HB := Lib.hid hb
  have HR := Lib.hid hr
  have d0 := cells_at hr 0 _ rfl
  have d1 := cells_at hr 1 _ rfl
  have f0 := frozen_of_row W w.heap.size 0 _ _ hr
  have f1 := frozen_of_row W w.heap.size 1 _ _ hr
  clear h hb hr
  go_enter Tryz.func19, Tryz.ntmps19
  go_wp2_with (go_at_call 50; refine HM.out.mono ?_; rintro e w1 ⟨rfl, rfl⟩)
  have r1 := heap_setCell_same _ w.heap.size 1 _ _ (.slice none 0 0) (heap_setCell_same _ w.heap.size 0 _ _ (.string ⟨#[]⟩) HR.out)
  have z0 := cells_at r1 0 _ rfl
  have z1 := cells_at r1 1 _ rfl
  refine bodyPost_ret (v := .tuple #[.agg #[.string ⟨#[]⟩, .slice none 0 0], .int .i64 1]) (by simp [results, Tryz.f19, go_sem, z0, z1]) rfl ?_
  exact ⟨rfl, (HB.out.setCell (p := ⟨w.heap.size, 0, none⟩) (by simp) _).setCell (p := ⟨w.heap.size, 1, none⟩) (by simp) _⟩
set_option maxRecDepth 100000 in
set_option maxHeartbeats 1000000 in
theorem copy_no (v : Value) (w : World) (h : NoSt w v) : Calls Tryz.prog 26 #[v] w fun e w' => e = .returned (.pointer none) ∧ Below w.heap.size w w' := by
  have HM := Lib.hid (made_no v w h)
  clear h
  go_enter Tryz.func26, Tryz.ntmps26
  go_wp2_with (go_at_call 50; refine HM.out.mono ?_; rintro e w1 ⟨rfl, rfl⟩)
  go_ret
  exact ⟨rfl, Below.refl _ _⟩
set_option maxRecDepth 100000 in
set_option maxHeartbeats 4000000 in
theorem has_no (x : Ato) (v v0 v1 : Value) (w : World) (h : NoSt w v) (hx : AtS (fun b => b < w.heap.size) w v0 v1 x) (hc : cntA x ≤ 1000000) (hT : Tab10 w) : Calls Tryz.prog 17 #[v, .agg #[v0, v1]] w fun e w' => e = .returned (.bool false) ∧ Below w.heap.size w w' := by
  obtain ⟨p, us⟩ := x
  obtain ⟨av, cap, rfl, rfl⟩ := hx.shape
  show Calls Tryz.prog 17 #[v, .agg #[.string p, .slice av us.length cap]] w _
  obtain ⟨W, hW⟩ : ∃ X, w.alloc (.cells #[.string p, .slice av us.length cap] 24) = X := ⟨_, rfl⟩
  have hb : Below w.heap.size w W := by rw [← hW]; exact (Below.refl _ _).alloc (Nat.le_refl _) _
  have hr : W.heap[w.heap.size]? = some (.cells #[.string p, .slice av us.length cap] 24 (0, 0)) := by rw [← hW]; exact World.alloc_heap_new _ _
  have HA := Lib.hid (hx.below hb)
  have HX := Lib.hid hr
  have HB := Lib.hid hb
  have HC := Lib.hid hc
  have HT := Lib.hid (hT.below hb)
  have HN := Lib.hid (h.below hb)
  clear h hx hb hr hc hT
  cases hv : validA (p, us) with
  | false =>
    have HV := Lib.hid hv
    clear hv
    go_enter Tryz.func17, Tryz.ntmps17
    go_wp2_with fail
    try rw [hW]
    clear hW
    have hst := @FL_grow [fV (.agg #[.string p, .slice av us.length cap]), fV (.bool false), fV (.bool false), fV undef, fV undef, fV undef, fV undef, fV (.bool false), fV (.bool false)] (by
      intro F hF
      simp only [List.mem_cons, List.not_mem_nil, or_false] at hF
      rcases hF with rfl | rfl | rfl | rfl | rfl | rfl | rfl | rfl | rfl <;> first | exact fV_stays _)
    refine wp_region_grow_orB (by kernel_rfl) (FL [fV (.agg #[.string p, .slice av us.length cap]), fV (.bool false), fV (.bool false), fV undef, fV undef, fV undef, fV undef, fV (.bool false), fV (.bool false)]) hst (by kernel_rfl) (steps_or ?_) ?_
    · refine ⟨?_, ?_, ?_, ?_, ?_, ?_, ?_, ?_, ?_, trivial⟩
      · intro a wx hb hd hs ho hp
        refine Or.inl ⟨rfl, ?_⟩
        have h3 : a.tmps.getD 3 undef = .pointer (some ⟨w.heap.size, 0, none⟩) := (ho 3 (by kernel_rfl)).trans rfl
        have hx := (hb.block w.heap.size (Array.getElem?_eq_some_iff.1 HX.out).1).trans HX.out
        have s3 := qslot_of (hs.trans (rfl : _ = 13)) (by decide) h3
        have x0 := cells_at hx 0 _ rfl
        have x1 := cells_at hx 1 _ rfl
        unfold Oper.wp
        go_simp
        exact Stepped.at (v := .agg #[.string p, .slice av us.length cap]) (by first | rfl | simp) hd (Below.refl _ _) rfl
      · intro a wx hb hd hs ho hp
        refine Or.inl ⟨rfl, ?_⟩
        have h5 : a.tmps.getD 5 undef = .agg #[.string p, .slice av us.length cap] := facts_at hp 0 5 (by kernel_rfl)
        unfold Oper.wp
        go_simp
        refine (HV.out ▸ validA_any (p, us) av cap _ wx (HA.out.below hb) (fun b h => h) HC.out).mono ?_
        rintro e w9 ⟨rfl, hb9⟩
        exact Stepped.at (v := .bool false) rfl hd (hb9) rfl
      · intro a wx hb hd hs ho hp
        refine Or.inl ⟨rfl, ?_⟩
        have h6 : a.tmps.getD 6 undef = .bool false := facts_at hp 1 6 (by kernel_rfl)
        unfold Oper.wp
        go_simp
        exact Stepped.at (v := .bool false) (by first | rfl | simp) hd (Below.refl _ _) rfl
      · intro a wx hb hd hs ho hp
        exact Or.inr ⟨wanted_no rfl (yielded_at (k := 2) (d := 7) (by kernel_rfl) (show a.tmps.getD 7 undef = _ from facts_at hp 2 7 (by kernel_rfl))), fun _ _ => rfl⟩
      · intro a wx hb hd hs ho hp
        exact Or.inr ⟨wanted_no rfl (yielded_at (k := 2) (d := 7) (by kernel_rfl) (show a.tmps.getD 7 undef = _ from facts_at hp 2 7 (by kernel_rfl))), fun _ _ => rfl⟩
      · intro a wx hb hd hs ho hp
        exact Or.inr ⟨wanted_no rfl (yielded_at (k := 2) (d := 7) (by kernel_rfl) (show a.tmps.getD 7 undef = _ from facts_at hp 2 7 (by kernel_rfl))), fun _ _ => rfl⟩
      · intro a wx hb hd hs ho hp
        exact Or.inr ⟨wanted_no rfl (yielded_at (k := 2) (d := 7) (by kernel_rfl) (show a.tmps.getD 7 undef = _ from facts_at hp 2 7 (by kernel_rfl))), fun _ _ => rfl⟩
      · intro a wx hb hd hs ho hp
        refine Or.inl ⟨rfl, ?_⟩
        have h7 : a.tmps.getD 7 undef = .bool false := facts_at hp 2 7 (by kernel_rfl)
        have h11 : a.tmps.getD 11 undef = undef := facts_at hp 6 11 (by kernel_rfl)
        unfold Oper.wp
        go_simp
        exact Stepped.at (v := .bool false) (by first | rfl | simp) hd (Below.refl _ _) rfl
      · intro a wx hb hd hs ho hp
        refine Or.inl ⟨rfl, ?_⟩
        have h12 : a.tmps.getD 12 undef = .bool false := facts_at hp 7 12 (by kernel_rfl)
        unfold Oper.wp
        go_simp
        exact Stepped.at (v := .bool false) (by first | rfl | simp) hd (Below.refl _ _) rfl
    intro ac W2 hJ
    obtain ⟨u5, f5⟩ : ∃ u, ac.tmps.getD 5 undef = u := ⟨_, rfl⟩
    obtain ⟨u6, f6⟩ : ∃ u, ac.tmps.getD 6 undef = u := ⟨_, rfl⟩
    obtain ⟨u7, f7⟩ : ∃ u, ac.tmps.getD 7 undef = u := ⟨_, rfl⟩
    obtain ⟨u8, f8⟩ : ∃ u, ac.tmps.getD 8 undef = u := ⟨_, rfl⟩
    obtain ⟨u9, f9⟩ : ∃ u, ac.tmps.getD 9 undef = u := ⟨_, rfl⟩
    obtain ⟨u10, f10⟩ : ∃ u, ac.tmps.getD 10 undef = u := ⟨_, rfl⟩
    obtain ⟨u11, f11⟩ : ∃ u, ac.tmps.getD 11 undef = u := ⟨_, rfl⟩
    obtain ⟨u12, f12⟩ : ∃ u, ac.tmps.getD 12 undef = u := ⟨_, rfl⟩
    have f4 : ac.tmps.getD 4 undef = .bool false := hJ.at_end 8 4 (by kernel_rfl)
    have hBelow := hJ.below
    obtain ⟨TT, DD⟩ := ac
    obtain rfl : DD = [] := hJ.defers
    have hE := slots_merge [false, false, false, false, true, true, true, true, true, true, true, true, true] 13 hJ.tmps rfl (by kernel_rfl) hJ.outer
    simp only [mergeFrom, Nat.zero_add, Nat.reduceAdd, f5, f6, f7, f8, f9, f10, f11, f12, f4] at hE
    clear hst hJ f5 f6 f7 f8 f9 f10 f11 f12 f4
    subst hE
    have HBW := Lib.hid (HB.out.trans (hBelow.mono HB.out.size))
    clear hBelow
    go_wp2
    go_ret
    exact ⟨rfl, HBW.out⟩
  | true =>
    have HV := Lib.hid hv
    clear hv
    go_enter Tryz.func17, Tryz.ntmps17
    go_wp2_with fail
    try rw [hW]
    clear hW
    have hst := @FL_grow [fV (.agg #[.string p, .slice av us.length cap]), fV (.bool true), fV (.bool true), fV (v), fV (.agg #[.slice none 0 0, .map none, .map none, .map none]), fV (.agg #[.string p, .slice av us.length cap]), fV (.bool false), fV (.bool false), fV (.bool false)] (by
      intro F hF
      simp only [List.mem_cons, List.not_mem_nil, or_false] at hF
      rcases hF with rfl | rfl | rfl | rfl | rfl | rfl | rfl | rfl | rfl <;> first | exact fV_stays _)
    refine wp_region_grow_orB (by kernel_rfl) (FL [fV (.agg #[.string p, .slice av us.length cap]), fV (.bool true), fV (.bool true), fV (v), fV (.agg #[.slice none 0 0, .map none, .map none, .map none]), fV (.agg #[.string p, .slice av us.length cap]), fV (.bool false), fV (.bool false), fV (.bool false)]) hst (by kernel_rfl) (steps_or ?_) ?_
    · refine ⟨?_, ?_, ?_, ?_, ?_, ?_, ?_, ?_, ?_, trivial⟩
      · intro a wx hb hd hs ho hp
        refine Or.inl ⟨rfl, ?_⟩
        have h3 : a.tmps.getD 3 undef = .pointer (some ⟨w.heap.size, 0, none⟩) := (ho 3 (by kernel_rfl)).trans rfl
        have hx := (hb.block w.heap.size (Array.getElem?_eq_some_iff.1 HX.out).1).trans HX.out
        have s3 := qslot_of (hs.trans (rfl : _ = 13)) (by decide) h3
        have x0 := cells_at hx 0 _ rfl
        have x1 := cells_at hx 1 _ rfl
        unfold Oper.wp
        go_simp
        exact Stepped.at (v := .agg #[.string p, .slice av us.length cap]) (by first | rfl | simp) hd (Below.refl _ _) rfl
      · intro a wx hb hd hs ho hp
        refine Or.inl ⟨rfl, ?_⟩
        have h5 : a.tmps.getD 5 undef = .agg #[.string p, .slice av us.length cap] := facts_at hp 0 5 (by kernel_rfl)
        unfold Oper.wp
        go_simp
        refine (HV.out ▸ validA_any (p, us) av cap _ wx (HA.out.below hb) (fun b h => h) HC.out).mono ?_
        rintro e w9 ⟨rfl, hb9⟩
        exact Stepped.at (v := .bool true) rfl hd (hb9) rfl
      · intro a wx hb hd hs ho hp
        refine Or.inl ⟨rfl, ?_⟩
        have h6 : a.tmps.getD 6 undef = .bool true := facts_at hp 1 6 (by kernel_rfl)
        unfold Oper.wp
        go_simp
        exact Stepped.at (v := .bool true) (by first | rfl | simp) hd (Below.refl _ _) rfl
      · intro a wx hb hd hs ho hp
        refine Or.inl ⟨wanted_yes rfl (yielded_at (k := 2) (d := 7) (by kernel_rfl) (show a.tmps.getD 7 undef = _ from facts_at hp 2 7 (by kernel_rfl))), ?_⟩
        have h0 : a.tmps.getD 0 undef = v := (ho 0 (by kernel_rfl)).trans rfl
        unfold Oper.wp
        go_simp
        exact Stepped.at (v := v) (by first | rfl | simp) hd (Below.refl _ _) rfl
      · intro a wx hb hd hs ho hp
        refine Or.inl ⟨wanted_yes rfl (yielded_at (k := 2) (d := 7) (by kernel_rfl) (show a.tmps.getD 7 undef = _ from facts_at hp 2 7 (by kernel_rfl))), ?_⟩
        have h8 : a.tmps.getD 8 undef = v := facts_at hp 3 8 (by kernel_rfl)
        unfold Oper.wp
        go_simp
        refine (content_no v wx (HN.out.below hb)).mono ?_
        rintro e w9 ⟨rfl, hb9⟩
        exact Stepped.at (v := .agg #[.slice none 0 0, .map none, .map none, .map none]) rfl hd (hb9) rfl
      · intro a wx hb hd hs ho hp
        refine Or.inl ⟨wanted_yes rfl (yielded_at (k := 2) (d := 7) (by kernel_rfl) (show a.tmps.getD 7 undef = _ from facts_at hp 2 7 (by kernel_rfl))), ?_⟩
        have h3 : a.tmps.getD 3 undef = .pointer (some ⟨w.heap.size, 0, none⟩) := (ho 3 (by kernel_rfl)).trans rfl
        have hx := (hb.block w.heap.size (Array.getElem?_eq_some_iff.1 HX.out).1).trans HX.out
        have s3 := qslot_of (hs.trans (rfl : _ = 13)) (by decide) h3
        have x0 := cells_at hx 0 _ rfl
        have x1 := cells_at hx 1 _ rfl
        unfold Oper.wp
        go_simp
        exact Stepped.at (v := .agg #[.string p, .slice av us.length cap]) (by first | rfl | simp) hd (Below.refl _ _) rfl
      · intro a wx hb hd hs ho hp
        refine Or.inl ⟨wanted_yes rfl (yielded_at (k := 2) (d := 7) (by kernel_rfl) (show a.tmps.getD 7 undef = _ from facts_at hp 2 7 (by kernel_rfl))), ?_⟩
        have h9 : a.tmps.getD 9 undef = .agg #[.slice none 0 0, .map none, .map none, .map none] := facts_at hp 4 9 (by kernel_rfl)
        have h10 : a.tmps.getD 10 undef = .agg #[.string p, .slice av us.length cap] := facts_at hp 5 10 (by kernel_rfl)
        have hx := contains_any (p, us) av cap none 0 0 (.map none) (.map none) (.map none) false wx (HA.out.below hb) HC.out HV.out (HT.out.below hb) (Or.inl rfl) ⟨_, rfl⟩ ⟨_, rfl⟩ (fun wy _ => ⟨_, look_n _ wy⟩)
        unfold Oper.wp
        go_simp
        refine (hx).mono ?_
        rintro e w9 ⟨rfl, hb9⟩
        exact Stepped.at (v := .bool false) rfl hd (hb9) rfl
      · intro a wx hb hd hs ho hp
        refine Or.inl ⟨rfl, ?_⟩
        have h7 : a.tmps.getD 7 undef = .bool true := facts_at hp 2 7 (by kernel_rfl)
        have h11 : a.tmps.getD 11 undef = .bool false := facts_at hp 6 11 (by kernel_rfl)
        unfold Oper.wp
        go_simp
        exact Stepped.at (v := .bool false) (by first | rfl | simp) hd (Below.refl _ _) rfl
      · intro a wx hb hd hs ho hp
        refine Or.inl ⟨rfl, ?_⟩
        have h12 : a.tmps.getD 12 undef = .bool false := facts_at hp 7 12 (by kernel_rfl)
        unfold Oper.wp
        go_simp
        exact Stepped.at (v := .bool false) (by first | rfl | simp) hd (Below.refl _ _) rfl
    intro ac W2 hJ
    obtain ⟨u5, f5⟩ : ∃ u, ac.tmps.getD 5 undef = u := ⟨_, rfl⟩
    obtain ⟨u6, f6⟩ : ∃ u, ac.tmps.getD 6 undef = u := ⟨_, rfl⟩
    obtain ⟨u7, f7⟩ : ∃ u, ac.tmps.getD 7 undef = u := ⟨_, rfl⟩
    obtain ⟨u8, f8⟩ : ∃ u, ac.tmps.getD 8 undef = u := ⟨_, rfl⟩
    obtain ⟨u9, f9⟩ : ∃ u, ac.tmps.getD 9 undef = u := ⟨_, rfl⟩
    obtain ⟨u10, f10⟩ : ∃ u, ac.tmps.getD 10 undef = u := ⟨_, rfl⟩
    obtain ⟨u11, f11⟩ : ∃ u, ac.tmps.getD 11 undef = u := ⟨_, rfl⟩
    obtain ⟨u12, f12⟩ : ∃ u, ac.tmps.getD 12 undef = u := ⟨_, rfl⟩
    have f4 : ac.tmps.getD 4 undef = .bool false := hJ.at_end 8 4 (by kernel_rfl)
    have hBelow := hJ.below
    obtain ⟨TT, DD⟩ := ac
    obtain rfl : DD = [] := hJ.defers
    have hE := slots_merge [false, false, false, false, true, true, true, true, true, true, true, true, true] 13 hJ.tmps rfl (by kernel_rfl) hJ.outer
    simp only [mergeFrom, Nat.zero_add, Nat.reduceAdd, f5, f6, f7, f8, f9, f10, f11, f12, f4] at hE
    clear hst hJ f5 f6 f7 f8 f9 f10 f11 f12 f4
    subst hE
    have HBW := Lib.hid (HB.out.trans (hBelow.mono HB.out.size))
    clear hBelow
    go_wp2
    go_ret
    exact ⟨rfl, HBW.out⟩
set_option maxRecDepth 100000 in
set_option maxHeartbeats 4000000 in
/-- Equal, where the first is none. -/
theorem equal_no1 (v u : Value) (w : World) (h : NoSt w v) : Calls Tryz.prog 27 #[v, u] w fun e w' => e = .returned (.bool false) ∧ Below w.heap.size w w' := by
  have HN := Lib.hid h
  clear h
  go_enter Tryz.func27, Tryz.ntmps27
  go_wp2_with fail
  have hst := @FL_grow [fV (v), fV (.bool false), fV (.bool false), fV undef, fV undef, fV (.bool false), fV (.bool false), fV undef, fV undef, fV undef, fV undef, fV undef, fV undef, fV undef, fV undef, fV undef, fV undef, fV undef, fV undef, fV undef, fV (.bool false), fV (.bool false), fV undef, fV undef, fV undef, fV undef, fV undef, fV undef, fV undef, fV undef, fV undef, fV (.bool false), fV (.bool false)] (by
    intro F hF
    simp only [List.mem_cons, List.not_mem_nil, or_false] at hF
    rcases hF with rfl | rfl | rfl | rfl | rfl | rfl | rfl | rfl | rfl | rfl | rfl | rfl | rfl | rfl | rfl | rfl | rfl | rfl | rfl | rfl | rfl | rfl | rfl | rfl | rfl | rfl | rfl | rfl | rfl | rfl | rfl | rfl | rfl <;> first | exact fV_stays _)
  refine wp_region_grow_orB (by kernel_rfl) (FL [fV (v), fV (.bool false), fV (.bool false), fV undef, fV undef, fV (.bool false), fV (.bool false), fV undef, fV undef, fV undef, fV undef, fV undef, fV undef, fV undef, fV undef, fV undef, fV undef, fV undef, fV undef, fV undef, fV (.bool false), fV (.bool false), fV undef, fV undef, fV undef, fV undef, fV undef, fV undef, fV undef, fV undef, fV undef, fV (.bool false), fV (.bool false)]) hst (by kernel_rfl) (steps_or ?_) ?_
  · refine ⟨?_, ?_, ?_, ?_, ?_, ?_, ?_, ?_, ?_, ?_, ?_, ?_, ?_, ?_, ?_, ?_, ?_, ?_, ?_, ?_, ?_, ?_, ?_, ?_, ?_, ?_, ?_, ?_, ?_, ?_, ?_, ?_, ?_, trivial⟩
    · intro a wx hb hd hs ho hp
      refine Or.inl ⟨rfl, ?_⟩
      have h0 : a.tmps.getD 0 undef = v := (ho 0 (by kernel_rfl)).trans rfl
      unfold Oper.wp
      go_simp
      exact Stepped.at (v := v) (by first | rfl | simp) hd (Below.refl _ _) rfl
    · intro a wx hb hd hs ho hp
      refine Or.inl ⟨rfl, ?_⟩
      have h5 : a.tmps.getD 5 undef = v := facts_at hp 0 5 (by kernel_rfl)
      unfold Oper.wp
      go_simp
      refine (made_no v wx (HN.out.below hb)).mono ?_
      rintro e w9 ⟨rfl, hw9⟩
      exact Stepped.at (v := .bool false) rfl hd ((by rw [hw9]; exact Below.refl _ _)) rfl
    · intro a wx hb hd hs ho hp
      refine Or.inl ⟨rfl, ?_⟩
      have h6 : a.tmps.getD 6 undef = .bool false := facts_at hp 1 6 (by kernel_rfl)
      unfold Oper.wp
      go_simp
      exact Stepped.at (v := .bool false) (by first | rfl | simp) hd (Below.refl _ _) rfl
    · intro a wx hb hd hs ho hp
      exact Or.inr ⟨wanted_no rfl (yielded_at (k := 2) (d := 7) (by kernel_rfl) (show a.tmps.getD 7 undef = _ from facts_at hp 2 7 (by kernel_rfl))), fun _ _ => rfl⟩
    · intro a wx hb hd hs ho hp
      exact Or.inr ⟨wanted_no rfl (yielded_at (k := 2) (d := 7) (by kernel_rfl) (show a.tmps.getD 7 undef = _ from facts_at hp 2 7 (by kernel_rfl))), fun _ _ => rfl⟩
    · intro a wx hb hd hs ho hp
      refine Or.inl ⟨rfl, ?_⟩
      have h7 : a.tmps.getD 7 undef = .bool false := facts_at hp 2 7 (by kernel_rfl)
      have h9 : a.tmps.getD 9 undef = undef := facts_at hp 4 9 (by kernel_rfl)
      unfold Oper.wp
      go_simp
      exact Stepped.at (v := .bool false) (by first | rfl | simp) hd (Below.refl _ _) rfl
    · intro a wx hb hd hs ho hp
      refine Or.inl ⟨rfl, ?_⟩
      have h10 : a.tmps.getD 10 undef = .bool false := facts_at hp 5 10 (by kernel_rfl)
      unfold Oper.wp
      go_simp
      exact Stepped.at (v := .bool false) (by first | rfl | simp) hd (Below.refl _ _) rfl
    · intro a wx hb hd hs ho hp
      exact Or.inr ⟨wanted_no rfl (yielded_at (k := 6) (d := 11) (by kernel_rfl) (show a.tmps.getD 11 undef = _ from facts_at hp 6 11 (by kernel_rfl))), fun _ _ => rfl⟩
    · intro a wx hb hd hs ho hp
      exact Or.inr ⟨wanted_no rfl (yielded_at (k := 6) (d := 11) (by kernel_rfl) (show a.tmps.getD 11 undef = _ from facts_at hp 6 11 (by kernel_rfl))), fun _ _ => rfl⟩
    · intro a wx hb hd hs ho hp
      exact Or.inr ⟨wanted_no rfl (yielded_at (k := 6) (d := 11) (by kernel_rfl) (show a.tmps.getD 11 undef = _ from facts_at hp 6 11 (by kernel_rfl))), fun _ _ => rfl⟩
    · intro a wx hb hd hs ho hp
      exact Or.inr ⟨wanted_no rfl (yielded_at (k := 6) (d := 11) (by kernel_rfl) (show a.tmps.getD 11 undef = _ from facts_at hp 6 11 (by kernel_rfl))), fun _ _ => rfl⟩
    · intro a wx hb hd hs ho hp
      exact Or.inr ⟨wanted_no rfl (yielded_at (k := 6) (d := 11) (by kernel_rfl) (show a.tmps.getD 11 undef = _ from facts_at hp 6 11 (by kernel_rfl))), fun _ _ => rfl⟩
    · intro a wx hb hd hs ho hp
      exact Or.inr ⟨wanted_no rfl (yielded_at (k := 6) (d := 11) (by kernel_rfl) (show a.tmps.getD 11 undef = _ from facts_at hp 6 11 (by kernel_rfl))), fun _ _ => rfl⟩
    · intro a wx hb hd hs ho hp
      exact Or.inr ⟨wanted_no rfl (yielded_at (k := 6) (d := 11) (by kernel_rfl) (show a.tmps.getD 11 undef = _ from facts_at hp 6 11 (by kernel_rfl))), fun _ _ => rfl⟩
    · intro a wx hb hd hs ho hp
      exact Or.inr ⟨wanted_no rfl (yielded_at (k := 6) (d := 11) (by kernel_rfl) (show a.tmps.getD 11 undef = _ from facts_at hp 6 11 (by kernel_rfl))), fun _ _ => rfl⟩
    · intro a wx hb hd hs ho hp
      exact Or.inr ⟨wanted_no rfl (yielded_at (k := 6) (d := 11) (by kernel_rfl) (show a.tmps.getD 11 undef = _ from facts_at hp 6 11 (by kernel_rfl))), fun _ _ => rfl⟩
    · intro a wx hb hd hs ho hp
      exact Or.inr ⟨wanted_no rfl (yielded_at (k := 6) (d := 11) (by kernel_rfl) (show a.tmps.getD 11 undef = _ from facts_at hp 6 11 (by kernel_rfl))), fun _ _ => rfl⟩
    · intro a wx hb hd hs ho hp
      exact Or.inr ⟨wanted_no rfl (yielded_at (k := 6) (d := 11) (by kernel_rfl) (show a.tmps.getD 11 undef = _ from facts_at hp 6 11 (by kernel_rfl))), fun _ _ => rfl⟩
    · intro a wx hb hd hs ho hp
      exact Or.inr ⟨wanted_no rfl (yielded_at (k := 6) (d := 11) (by kernel_rfl) (show a.tmps.getD 11 undef = _ from facts_at hp 6 11 (by kernel_rfl))), fun _ _ => rfl⟩
    · intro a wx hb hd hs ho hp
      exact Or.inr ⟨wanted_no rfl (yielded_at (k := 6) (d := 11) (by kernel_rfl) (show a.tmps.getD 11 undef = _ from facts_at hp 6 11 (by kernel_rfl))), fun _ _ => rfl⟩
    · intro a wx hb hd hs ho hp
      refine Or.inl ⟨rfl, ?_⟩
      have h11 : a.tmps.getD 11 undef = .bool false := facts_at hp 6 11 (by kernel_rfl)
      have h24 : a.tmps.getD 24 undef = undef := facts_at hp 19 24 (by kernel_rfl)
      unfold Oper.wp
      go_simp
      exact Stepped.at (v := .bool false) (by first | rfl | simp) hd (Below.refl _ _) rfl
    · intro a wx hb hd hs ho hp
      refine Or.inl ⟨rfl, ?_⟩
      have h25 : a.tmps.getD 25 undef = .bool false := facts_at hp 20 25 (by kernel_rfl)
      unfold Oper.wp
      go_simp
      exact Stepped.at (v := .bool false) (by first | rfl | simp) hd (Below.refl _ _) rfl
    · intro a wx hb hd hs ho hp
      exact Or.inr ⟨wanted_no rfl (yielded_at (k := 21) (d := 26) (by kernel_rfl) (show a.tmps.getD 26 undef = _ from facts_at hp 21 26 (by kernel_rfl))), fun _ _ => rfl⟩
    · intro a wx hb hd hs ho hp
      exact Or.inr ⟨wanted_no rfl (yielded_at (k := 21) (d := 26) (by kernel_rfl) (show a.tmps.getD 26 undef = _ from facts_at hp 21 26 (by kernel_rfl))), fun _ _ => rfl⟩
    · intro a wx hb hd hs ho hp
      exact Or.inr ⟨wanted_no rfl (yielded_at (k := 21) (d := 26) (by kernel_rfl) (show a.tmps.getD 26 undef = _ from facts_at hp 21 26 (by kernel_rfl))), fun _ _ => rfl⟩
    · intro a wx hb hd hs ho hp
      exact Or.inr ⟨wanted_no rfl (yielded_at (k := 21) (d := 26) (by kernel_rfl) (show a.tmps.getD 26 undef = _ from facts_at hp 21 26 (by kernel_rfl))), fun _ _ => rfl⟩
    · intro a wx hb hd hs ho hp
      exact Or.inr ⟨wanted_no rfl (yielded_at (k := 21) (d := 26) (by kernel_rfl) (show a.tmps.getD 26 undef = _ from facts_at hp 21 26 (by kernel_rfl))), fun _ _ => rfl⟩
    · intro a wx hb hd hs ho hp
      exact Or.inr ⟨wanted_no rfl (yielded_at (k := 21) (d := 26) (by kernel_rfl) (show a.tmps.getD 26 undef = _ from facts_at hp 21 26 (by kernel_rfl))), fun _ _ => rfl⟩
    · intro a wx hb hd hs ho hp
      exact Or.inr ⟨wanted_no rfl (yielded_at (k := 21) (d := 26) (by kernel_rfl) (show a.tmps.getD 26 undef = _ from facts_at hp 21 26 (by kernel_rfl))), fun _ _ => rfl⟩
    · intro a wx hb hd hs ho hp
      exact Or.inr ⟨wanted_no rfl (yielded_at (k := 21) (d := 26) (by kernel_rfl) (show a.tmps.getD 26 undef = _ from facts_at hp 21 26 (by kernel_rfl))), fun _ _ => rfl⟩
    · intro a wx hb hd hs ho hp
      exact Or.inr ⟨wanted_no rfl (yielded_at (k := 21) (d := 26) (by kernel_rfl) (show a.tmps.getD 26 undef = _ from facts_at hp 21 26 (by kernel_rfl))), fun _ _ => rfl⟩
    · intro a wx hb hd hs ho hp
      refine Or.inl ⟨rfl, ?_⟩
      have h26 : a.tmps.getD 26 undef = .bool false := facts_at hp 21 26 (by kernel_rfl)
      have h35 : a.tmps.getD 35 undef = undef := facts_at hp 30 35 (by kernel_rfl)
      unfold Oper.wp
      go_simp
      exact Stepped.at (v := .bool false) (by first | rfl | simp) hd (Below.refl _ _) rfl
    · intro a wx hb hd hs ho hp
      refine Or.inl ⟨rfl, ?_⟩
      have h36 : a.tmps.getD 36 undef = .bool false := facts_at hp 31 36 (by kernel_rfl)
      unfold Oper.wp
      go_simp
      exact Stepped.at (v := .bool false) (by first | rfl | simp) hd (Below.refl _ _) rfl
  intro ac W2 hJ
  obtain ⟨u5, f5⟩ : ∃ u, ac.tmps.getD 5 undef = u := ⟨_, rfl⟩
  obtain ⟨u6, f6⟩ : ∃ u, ac.tmps.getD 6 undef = u := ⟨_, rfl⟩
  obtain ⟨u7, f7⟩ : ∃ u, ac.tmps.getD 7 undef = u := ⟨_, rfl⟩
  obtain ⟨u8, f8⟩ : ∃ u, ac.tmps.getD 8 undef = u := ⟨_, rfl⟩
  obtain ⟨u9, f9⟩ : ∃ u, ac.tmps.getD 9 undef = u := ⟨_, rfl⟩
  obtain ⟨u10, f10⟩ : ∃ u, ac.tmps.getD 10 undef = u := ⟨_, rfl⟩
  obtain ⟨u11, f11⟩ : ∃ u, ac.tmps.getD 11 undef = u := ⟨_, rfl⟩
  obtain ⟨u12, f12⟩ : ∃ u, ac.tmps.getD 12 undef = u := ⟨_, rfl⟩
  obtain ⟨u13, f13⟩ : ∃ u, ac.tmps.getD 13 undef = u := ⟨_, rfl⟩
  obtain ⟨u14, f14⟩ : ∃ u, ac.tmps.getD 14 undef = u := ⟨_, rfl⟩
  obtain ⟨u15, f15⟩ : ∃ u, ac.tmps.getD 15 undef = u := ⟨_, rfl⟩
  obtain ⟨u16, f16⟩ : ∃ u, ac.tmps.getD 16 undef = u := ⟨_, rfl⟩
  obtain ⟨u17, f17⟩ : ∃ u, ac.tmps.getD 17 undef = u := ⟨_, rfl⟩
  obtain ⟨u18, f18⟩ : ∃ u, ac.tmps.getD 18 undef = u := ⟨_, rfl⟩
  obtain ⟨u19, f19⟩ : ∃ u, ac.tmps.getD 19 undef = u := ⟨_, rfl⟩
  obtain ⟨u20, f20⟩ : ∃ u, ac.tmps.getD 20 undef = u := ⟨_, rfl⟩
  obtain ⟨u21, f21⟩ : ∃ u, ac.tmps.getD 21 undef = u := ⟨_, rfl⟩
  obtain ⟨u22, f22⟩ : ∃ u, ac.tmps.getD 22 undef = u := ⟨_, rfl⟩
  obtain ⟨u23, f23⟩ : ∃ u, ac.tmps.getD 23 undef = u := ⟨_, rfl⟩
  obtain ⟨u24, f24⟩ : ∃ u, ac.tmps.getD 24 undef = u := ⟨_, rfl⟩
  obtain ⟨u25, f25⟩ : ∃ u, ac.tmps.getD 25 undef = u := ⟨_, rfl⟩
  obtain ⟨u26, f26⟩ : ∃ u, ac.tmps.getD 26 undef = u := ⟨_, rfl⟩
  obtain ⟨u27, f27⟩ : ∃ u, ac.tmps.getD 27 undef = u := ⟨_, rfl⟩
  obtain ⟨u28, f28⟩ : ∃ u, ac.tmps.getD 28 undef = u := ⟨_, rfl⟩
  obtain ⟨u29, f29⟩ : ∃ u, ac.tmps.getD 29 undef = u := ⟨_, rfl⟩
  obtain ⟨u30, f30⟩ : ∃ u, ac.tmps.getD 30 undef = u := ⟨_, rfl⟩
  obtain ⟨u31, f31⟩ : ∃ u, ac.tmps.getD 31 undef = u := ⟨_, rfl⟩
  obtain ⟨u32, f32⟩ : ∃ u, ac.tmps.getD 32 undef = u := ⟨_, rfl⟩
  obtain ⟨u33, f33⟩ : ∃ u, ac.tmps.getD 33 undef = u := ⟨_, rfl⟩
  obtain ⟨u34, f34⟩ : ∃ u, ac.tmps.getD 34 undef = u := ⟨_, rfl⟩
  obtain ⟨u35, f35⟩ : ∃ u, ac.tmps.getD 35 undef = u := ⟨_, rfl⟩
  obtain ⟨u36, f36⟩ : ∃ u, ac.tmps.getD 36 undef = u := ⟨_, rfl⟩
  have f4 : ac.tmps.getD 4 undef = .bool false := hJ.at_end 32 4 (by kernel_rfl)
  have hBelow := hJ.below
  obtain ⟨TT, DD⟩ := ac
  obtain rfl : DD = [] := hJ.defers
  have hE := slots_merge [false, false, false, false, true, true, true, true, true, true, true, true, true, true, true, true, true, true, true, true, true, true, true, true, true, true, true, true, true, true, true, true, true, true, true, true, true] 37 hJ.tmps rfl (by kernel_rfl) hJ.outer
  simp only [mergeFrom, Nat.zero_add, Nat.reduceAdd, f5, f6, f7, f8, f9, f10, f11, f12, f13, f14, f15, f16, f17, f18, f19, f20, f21, f22, f23, f24, f25, f26, f27, f28, f29, f30, f31, f32, f33, f34, f35, f36, f4] at hE
  clear hst hJ f5 f6 f7 f8 f9 f10 f11 f12 f13 f14 f15 f16 f17 f18 f19 f20 f21 f22 f23 f24 f25 f26 f27 f28 f29 f30 f31 f32 f33 f34 f35 f36 f4
  subst hE
  have HBW := Lib.hid hBelow
  clear hBelow
  go_wp2
  go_ret
  exact ⟨rfl, HBW.out⟩
set_option maxRecDepth 100000 in
set_option maxHeartbeats 4000000 in
/-- Equal, where the second is none. -/
theorem equal_no2 (S : Nat) (v a b c d : Value) (w : World) (h : NoSt w v) (hS : w.heap[S]? = some (.cells #[a, b, c, d, .pointer (some ⟨S, 0, none⟩)] 59 (0, 0))) : Calls Tryz.prog 27 #[.pointer (some ⟨S, 0, none⟩), v] w fun e w' => e = .returned (.bool false) ∧ Below w.heap.size w w' := by
  have HN := Lib.hid h
  have HS := Lib.hid hS
  clear h hS
  go_enter Tryz.func27, Tryz.ntmps27
  go_wp2_with fail
  have hst := @FL_grow [fV (.pointer (some ⟨S, 0, none⟩)), fV (.bool true), fV (.bool true), fV (v), fV (.bool false), fV (.bool false), fV (.bool false), fV undef, fV undef, fV undef, fV undef, fV undef, fV undef, fV undef, fV undef, fV undef, fV undef, fV undef, fV undef, fV undef, fV (.bool false), fV (.bool false), fV undef, fV undef, fV undef, fV undef, fV undef, fV undef, fV undef, fV undef, fV undef, fV (.bool false), fV (.bool false)] (by
    intro F hF
    simp only [List.mem_cons, List.not_mem_nil, or_false] at hF
    rcases hF with rfl | rfl | rfl | rfl | rfl | rfl | rfl | rfl | rfl | rfl | rfl | rfl | rfl | rfl | rfl | rfl | rfl | rfl | rfl | rfl | rfl | rfl | rfl | rfl | rfl | rfl | rfl | rfl | rfl | rfl | rfl | rfl | rfl <;> first | exact fV_stays _)
  refine wp_region_grow_orB (by kernel_rfl) (FL [fV (.pointer (some ⟨S, 0, none⟩)), fV (.bool true), fV (.bool true), fV (v), fV (.bool false), fV (.bool false), fV (.bool false), fV undef, fV undef, fV undef, fV undef, fV undef, fV undef, fV undef, fV undef, fV undef, fV undef, fV undef, fV undef, fV undef, fV (.bool false), fV (.bool false), fV undef, fV undef, fV undef, fV undef, fV undef, fV undef, fV undef, fV undef, fV undef, fV (.bool false), fV (.bool false)]) hst (by kernel_rfl) (steps_or ?_) ?_
  · refine ⟨?_, ?_, ?_, ?_, ?_, ?_, ?_, ?_, ?_, ?_, ?_, ?_, ?_, ?_, ?_, ?_, ?_, ?_, ?_, ?_, ?_, ?_, ?_, ?_, ?_, ?_, ?_, ?_, ?_, ?_, ?_, ?_, ?_, trivial⟩
    · intro a wx hb hd hs ho hp
      refine Or.inl ⟨rfl, ?_⟩
      have h0 : a.tmps.getD 0 undef = .pointer (some ⟨S, 0, none⟩) := (ho 0 (by kernel_rfl)).trans rfl
      unfold Oper.wp
      go_simp
      exact Stepped.at (v := .pointer (some ⟨S, 0, none⟩)) (by first | rfl | simp) hd (Below.refl _ _) rfl
    · intro a wx hb hd hs ho hp
      refine Or.inl ⟨rfl, ?_⟩
      have h5 : a.tmps.getD 5 undef = .pointer (some ⟨S, 0, none⟩) := facts_at hp 0 5 (by kernel_rfl)
      unfold Oper.wp
      go_simp
      refine (made_row S _ _ _ _ wx ((hb.block S (Array.getElem?_eq_some_iff.1 HS.out).1).trans HS.out)).mono ?_
      rintro e w9 ⟨rfl, hw9⟩
      exact Stepped.at (v := .bool true) rfl hd ((by rw [hw9]; exact Below.refl _ _)) rfl
    · intro a wx hb hd hs ho hp
      refine Or.inl ⟨rfl, ?_⟩
      have h6 : a.tmps.getD 6 undef = .bool true := facts_at hp 1 6 (by kernel_rfl)
      unfold Oper.wp
      go_simp
      exact Stepped.at (v := .bool true) (by first | rfl | simp) hd (Below.refl _ _) rfl
    · intro a wx hb hd hs ho hp
      refine Or.inl ⟨wanted_yes rfl (yielded_at (k := 2) (d := 7) (by kernel_rfl) (show a.tmps.getD 7 undef = _ from facts_at hp 2 7 (by kernel_rfl))), ?_⟩
      have h1 : a.tmps.getD 1 undef = v := (ho 1 (by kernel_rfl)).trans rfl
      unfold Oper.wp
      go_simp
      exact Stepped.at (v := v) (by first | rfl | simp) hd (Below.refl _ _) rfl
    · intro a wx hb hd hs ho hp
      refine Or.inl ⟨wanted_yes rfl (yielded_at (k := 2) (d := 7) (by kernel_rfl) (show a.tmps.getD 7 undef = _ from facts_at hp 2 7 (by kernel_rfl))), ?_⟩
      have h8 : a.tmps.getD 8 undef = v := facts_at hp 3 8 (by kernel_rfl)
      unfold Oper.wp
      go_simp
      refine (made_no v wx (HN.out.below hb)).mono ?_
      rintro e w9 ⟨rfl, hw9⟩
      exact Stepped.at (v := .bool false) rfl hd ((by rw [hw9]; exact Below.refl _ _)) rfl
    · intro a wx hb hd hs ho hp
      refine Or.inl ⟨rfl, ?_⟩
      have h7 : a.tmps.getD 7 undef = .bool true := facts_at hp 2 7 (by kernel_rfl)
      have h9 : a.tmps.getD 9 undef = .bool false := facts_at hp 4 9 (by kernel_rfl)
      unfold Oper.wp
      go_simp
      exact Stepped.at (v := .bool false) (by first | rfl | simp) hd (Below.refl _ _) rfl
    · intro a wx hb hd hs ho hp
      refine Or.inl ⟨rfl, ?_⟩
      have h10 : a.tmps.getD 10 undef = .bool false := facts_at hp 5 10 (by kernel_rfl)
      unfold Oper.wp
      go_simp
      exact Stepped.at (v := .bool false) (by first | rfl | simp) hd (Below.refl _ _) rfl
    · intro a wx hb hd hs ho hp
      exact Or.inr ⟨wanted_no rfl (yielded_at (k := 6) (d := 11) (by kernel_rfl) (show a.tmps.getD 11 undef = _ from facts_at hp 6 11 (by kernel_rfl))), fun _ _ => rfl⟩
    · intro a wx hb hd hs ho hp
      exact Or.inr ⟨wanted_no rfl (yielded_at (k := 6) (d := 11) (by kernel_rfl) (show a.tmps.getD 11 undef = _ from facts_at hp 6 11 (by kernel_rfl))), fun _ _ => rfl⟩
    · intro a wx hb hd hs ho hp
      exact Or.inr ⟨wanted_no rfl (yielded_at (k := 6) (d := 11) (by kernel_rfl) (show a.tmps.getD 11 undef = _ from facts_at hp 6 11 (by kernel_rfl))), fun _ _ => rfl⟩
    · intro a wx hb hd hs ho hp
      exact Or.inr ⟨wanted_no rfl (yielded_at (k := 6) (d := 11) (by kernel_rfl) (show a.tmps.getD 11 undef = _ from facts_at hp 6 11 (by kernel_rfl))), fun _ _ => rfl⟩
    · intro a wx hb hd hs ho hp
      exact Or.inr ⟨wanted_no rfl (yielded_at (k := 6) (d := 11) (by kernel_rfl) (show a.tmps.getD 11 undef = _ from facts_at hp 6 11 (by kernel_rfl))), fun _ _ => rfl⟩
    · intro a wx hb hd hs ho hp
      exact Or.inr ⟨wanted_no rfl (yielded_at (k := 6) (d := 11) (by kernel_rfl) (show a.tmps.getD 11 undef = _ from facts_at hp 6 11 (by kernel_rfl))), fun _ _ => rfl⟩
    · intro a wx hb hd hs ho hp
      exact Or.inr ⟨wanted_no rfl (yielded_at (k := 6) (d := 11) (by kernel_rfl) (show a.tmps.getD 11 undef = _ from facts_at hp 6 11 (by kernel_rfl))), fun _ _ => rfl⟩
    · intro a wx hb hd hs ho hp
      exact Or.inr ⟨wanted_no rfl (yielded_at (k := 6) (d := 11) (by kernel_rfl) (show a.tmps.getD 11 undef = _ from facts_at hp 6 11 (by kernel_rfl))), fun _ _ => rfl⟩
    · intro a wx hb hd hs ho hp
      exact Or.inr ⟨wanted_no rfl (yielded_at (k := 6) (d := 11) (by kernel_rfl) (show a.tmps.getD 11 undef = _ from facts_at hp 6 11 (by kernel_rfl))), fun _ _ => rfl⟩
    · intro a wx hb hd hs ho hp
      exact Or.inr ⟨wanted_no rfl (yielded_at (k := 6) (d := 11) (by kernel_rfl) (show a.tmps.getD 11 undef = _ from facts_at hp 6 11 (by kernel_rfl))), fun _ _ => rfl⟩
    · intro a wx hb hd hs ho hp
      exact Or.inr ⟨wanted_no rfl (yielded_at (k := 6) (d := 11) (by kernel_rfl) (show a.tmps.getD 11 undef = _ from facts_at hp 6 11 (by kernel_rfl))), fun _ _ => rfl⟩
    · intro a wx hb hd hs ho hp
      exact Or.inr ⟨wanted_no rfl (yielded_at (k := 6) (d := 11) (by kernel_rfl) (show a.tmps.getD 11 undef = _ from facts_at hp 6 11 (by kernel_rfl))), fun _ _ => rfl⟩
    · intro a wx hb hd hs ho hp
      exact Or.inr ⟨wanted_no rfl (yielded_at (k := 6) (d := 11) (by kernel_rfl) (show a.tmps.getD 11 undef = _ from facts_at hp 6 11 (by kernel_rfl))), fun _ _ => rfl⟩
    · intro a wx hb hd hs ho hp
      refine Or.inl ⟨rfl, ?_⟩
      have h11 : a.tmps.getD 11 undef = .bool false := facts_at hp 6 11 (by kernel_rfl)
      have h24 : a.tmps.getD 24 undef = undef := facts_at hp 19 24 (by kernel_rfl)
      unfold Oper.wp
      go_simp
      exact Stepped.at (v := .bool false) (by first | rfl | simp) hd (Below.refl _ _) rfl
    · intro a wx hb hd hs ho hp
      refine Or.inl ⟨rfl, ?_⟩
      have h25 : a.tmps.getD 25 undef = .bool false := facts_at hp 20 25 (by kernel_rfl)
      unfold Oper.wp
      go_simp
      exact Stepped.at (v := .bool false) (by first | rfl | simp) hd (Below.refl _ _) rfl
    · intro a wx hb hd hs ho hp
      exact Or.inr ⟨wanted_no rfl (yielded_at (k := 21) (d := 26) (by kernel_rfl) (show a.tmps.getD 26 undef = _ from facts_at hp 21 26 (by kernel_rfl))), fun _ _ => rfl⟩
    · intro a wx hb hd hs ho hp
      exact Or.inr ⟨wanted_no rfl (yielded_at (k := 21) (d := 26) (by kernel_rfl) (show a.tmps.getD 26 undef = _ from facts_at hp 21 26 (by kernel_rfl))), fun _ _ => rfl⟩
    · intro a wx hb hd hs ho hp
      exact Or.inr ⟨wanted_no rfl (yielded_at (k := 21) (d := 26) (by kernel_rfl) (show a.tmps.getD 26 undef = _ from facts_at hp 21 26 (by kernel_rfl))), fun _ _ => rfl⟩
    · intro a wx hb hd hs ho hp
      exact Or.inr ⟨wanted_no rfl (yielded_at (k := 21) (d := 26) (by kernel_rfl) (show a.tmps.getD 26 undef = _ from facts_at hp 21 26 (by kernel_rfl))), fun _ _ => rfl⟩
    · intro a wx hb hd hs ho hp
      exact Or.inr ⟨wanted_no rfl (yielded_at (k := 21) (d := 26) (by kernel_rfl) (show a.tmps.getD 26 undef = _ from facts_at hp 21 26 (by kernel_rfl))), fun _ _ => rfl⟩
    · intro a wx hb hd hs ho hp
      exact Or.inr ⟨wanted_no rfl (yielded_at (k := 21) (d := 26) (by kernel_rfl) (show a.tmps.getD 26 undef = _ from facts_at hp 21 26 (by kernel_rfl))), fun _ _ => rfl⟩
    · intro a wx hb hd hs ho hp
      exact Or.inr ⟨wanted_no rfl (yielded_at (k := 21) (d := 26) (by kernel_rfl) (show a.tmps.getD 26 undef = _ from facts_at hp 21 26 (by kernel_rfl))), fun _ _ => rfl⟩
    · intro a wx hb hd hs ho hp
      exact Or.inr ⟨wanted_no rfl (yielded_at (k := 21) (d := 26) (by kernel_rfl) (show a.tmps.getD 26 undef = _ from facts_at hp 21 26 (by kernel_rfl))), fun _ _ => rfl⟩
    · intro a wx hb hd hs ho hp
      exact Or.inr ⟨wanted_no rfl (yielded_at (k := 21) (d := 26) (by kernel_rfl) (show a.tmps.getD 26 undef = _ from facts_at hp 21 26 (by kernel_rfl))), fun _ _ => rfl⟩
    · intro a wx hb hd hs ho hp
      refine Or.inl ⟨rfl, ?_⟩
      have h26 : a.tmps.getD 26 undef = .bool false := facts_at hp 21 26 (by kernel_rfl)
      have h35 : a.tmps.getD 35 undef = undef := facts_at hp 30 35 (by kernel_rfl)
      unfold Oper.wp
      go_simp
      exact Stepped.at (v := .bool false) (by first | rfl | simp) hd (Below.refl _ _) rfl
    · intro a wx hb hd hs ho hp
      refine Or.inl ⟨rfl, ?_⟩
      have h36 : a.tmps.getD 36 undef = .bool false := facts_at hp 31 36 (by kernel_rfl)
      unfold Oper.wp
      go_simp
      exact Stepped.at (v := .bool false) (by first | rfl | simp) hd (Below.refl _ _) rfl
  intro ac W2 hJ
  obtain ⟨u5, f5⟩ : ∃ u, ac.tmps.getD 5 undef = u := ⟨_, rfl⟩
  obtain ⟨u6, f6⟩ : ∃ u, ac.tmps.getD 6 undef = u := ⟨_, rfl⟩
  obtain ⟨u7, f7⟩ : ∃ u, ac.tmps.getD 7 undef = u := ⟨_, rfl⟩
  obtain ⟨u8, f8⟩ : ∃ u, ac.tmps.getD 8 undef = u := ⟨_, rfl⟩
  obtain ⟨u9, f9⟩ : ∃ u, ac.tmps.getD 9 undef = u := ⟨_, rfl⟩
  obtain ⟨u10, f10⟩ : ∃ u, ac.tmps.getD 10 undef = u := ⟨_, rfl⟩
  obtain ⟨u11, f11⟩ : ∃ u, ac.tmps.getD 11 undef = u := ⟨_, rfl⟩
  obtain ⟨u12, f12⟩ : ∃ u, ac.tmps.getD 12 undef = u := ⟨_, rfl⟩
  obtain ⟨u13, f13⟩ : ∃ u, ac.tmps.getD 13 undef = u := ⟨_, rfl⟩
  obtain ⟨u14, f14⟩ : ∃ u, ac.tmps.getD 14 undef = u := ⟨_, rfl⟩
  obtain ⟨u15, f15⟩ : ∃ u, ac.tmps.getD 15 undef = u := ⟨_, rfl⟩
  obtain ⟨u16, f16⟩ : ∃ u, ac.tmps.getD 16 undef = u := ⟨_, rfl⟩
  obtain ⟨u17, f17⟩ : ∃ u, ac.tmps.getD 17 undef = u := ⟨_, rfl⟩
  obtain ⟨u18, f18⟩ : ∃ u, ac.tmps.getD 18 undef = u := ⟨_, rfl⟩
  obtain ⟨u19, f19⟩ : ∃ u, ac.tmps.getD 19 undef = u := ⟨_, rfl⟩
  obtain ⟨u20, f20⟩ : ∃ u, ac.tmps.getD 20 undef = u := ⟨_, rfl⟩
  obtain ⟨u21, f21⟩ : ∃ u, ac.tmps.getD 21 undef = u := ⟨_, rfl⟩
  obtain ⟨u22, f22⟩ : ∃ u, ac.tmps.getD 22 undef = u := ⟨_, rfl⟩
  obtain ⟨u23, f23⟩ : ∃ u, ac.tmps.getD 23 undef = u := ⟨_, rfl⟩
  obtain ⟨u24, f24⟩ : ∃ u, ac.tmps.getD 24 undef = u := ⟨_, rfl⟩
  obtain ⟨u25, f25⟩ : ∃ u, ac.tmps.getD 25 undef = u := ⟨_, rfl⟩
  obtain ⟨u26, f26⟩ : ∃ u, ac.tmps.getD 26 undef = u := ⟨_, rfl⟩
  obtain ⟨u27, f27⟩ : ∃ u, ac.tmps.getD 27 undef = u := ⟨_, rfl⟩
  obtain ⟨u28, f28⟩ : ∃ u, ac.tmps.getD 28 undef = u := ⟨_, rfl⟩
  obtain ⟨u29, f29⟩ : ∃ u, ac.tmps.getD 29 undef = u := ⟨_, rfl⟩
  obtain ⟨u30, f30⟩ : ∃ u, ac.tmps.getD 30 undef = u := ⟨_, rfl⟩
  obtain ⟨u31, f31⟩ : ∃ u, ac.tmps.getD 31 undef = u := ⟨_, rfl⟩
  obtain ⟨u32, f32⟩ : ∃ u, ac.tmps.getD 32 undef = u := ⟨_, rfl⟩
  obtain ⟨u33, f33⟩ : ∃ u, ac.tmps.getD 33 undef = u := ⟨_, rfl⟩
  obtain ⟨u34, f34⟩ : ∃ u, ac.tmps.getD 34 undef = u := ⟨_, rfl⟩
  obtain ⟨u35, f35⟩ : ∃ u, ac.tmps.getD 35 undef = u := ⟨_, rfl⟩
  obtain ⟨u36, f36⟩ : ∃ u, ac.tmps.getD 36 undef = u := ⟨_, rfl⟩
  have f4 : ac.tmps.getD 4 undef = .bool false := hJ.at_end 32 4 (by kernel_rfl)
  have hBelow := hJ.below
  obtain ⟨TT, DD⟩ := ac
  obtain rfl : DD = [] := hJ.defers
  have hE := slots_merge [false, false, false, false, true, true, true, true, true, true, true, true, true, true, true, true, true, true, true, true, true, true, true, true, true, true, true, true, true, true, true, true, true, true, true, true, true] 37 hJ.tmps rfl (by kernel_rfl) hJ.outer
  simp only [mergeFrom, Nat.zero_add, Nat.reduceAdd, f5, f6, f7, f8, f9, f10, f11, f12, f13, f14, f15, f16, f17, f18, f19, f20, f21, f22, f23, f24, f25, f26, f27, f28, f29, f30, f31, f32, f33, f34, f35, f36, f4] at hE
  clear hst hJ f5 f6 f7 f8 f9 f10 f11 f12 f13 f14 f15 f16 f17 f18 f19 f20 f21 f22 f23 f24 f25 f26 f27 f28 f29 f30 f31 f32 f33 f34 f35 f36 f4
  subst hE
  have HBW := Lib.hid hBelow
  clear hBelow
  go_wp2
  go_ret
  exact ⟨rfl, HBW.out⟩
end Go.Proofs.YtcoieohbmkjpoaaGreatDoor
