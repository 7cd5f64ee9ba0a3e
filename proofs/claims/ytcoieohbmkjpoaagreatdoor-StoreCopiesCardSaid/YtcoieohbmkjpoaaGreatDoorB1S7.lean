/- with: the atoms of a list with a predicate and an argument. -/
import Derived.Test.YtcoieohbmkjpoaaGreatDoorB1S1
namespace Go.Proofs.YtcoieohbmkjpoaaGreatDoor
open Go.RowKit Go.Shelf Go.Maps
attribute [local go_sem] Oper.semAt_some

/-- Which atoms with takes. -/
def withP (g : Sig) (arg : Int) (t : Tm) (x : Ato) : Bool := ((x.1.toList == g.1.toList) && decide (x.2.length = g.2)) && (decide (arg < 0) || ((x.2[arg.toNat]?).map (fun u => sameB u t)).getD false)
theorem filter_take {α : Type} (P : α → Bool) (L : List α) (j : Nat) (h : j < L.length) : (L.take (j + 1)).filter P = (L.take j).filter P ++ (if P L[j] then [L[j]] else []) := by
  rw [List.take_succ_eq_append_getElem h, List.filter_append]
  congr 1
  cases hp : P L[j] <;> simp [hp]
/-- A list of the call's own, whose atoms lie in older memory. -/
def LstO (B : Nat) (w : World) (v : Value) (L : List Ato) : Prop := ∃ xs, w.ownsRow B 24 2 v L.length xs ∧ FlatA (fun b => b < B) w xs L
theorem LstO.read {B : Nat} {w : World} {v : Value} {L : List Ato} (h : LstO B w v L) (hB : B ≤ w.heap.size) : LstR w v L := by
  obtain ⟨xs, h1, h2⟩ := h
  exact ⟨xs, own_mono (Nat.zero_le _) h1, h2.same (fun b h => Nat.lt_of_lt_of_le h hB) (fun _ _ => rfl)⟩
theorem LstO.below {B : Nat} {w w' : World} {v : Value} {L : List Ato} (h : LstO B w v L) (hB : B ≤ w.heap.size) (hb : Below w.heap.size w w') : LstO B w' v L := by
  obtain ⟨xs, h1, h2⟩ := h
  exact ⟨xs, own_grown' h1 hb, h2.same (fun _ h => h) (fun b h => hb.block b (Nat.lt_of_lt_of_le h hB))⟩
/-- What with gives. -/
def WithR (w : World) (L : List Ato) (e : Ending) (w' : World) : Prop := ∃ v, e = .returned v ∧ LstR w' v L ∧ Below w.heap.size w w'
set_option maxRecDepth 100000 in
set_option maxHeartbeats 8000000 in
theorem with_any (L : List Ato) (lv : Value) (g : Sig) (arg : Int) (t : Tm) (c0 c1 c2 c3 : Value) (w : World) (hL : LstR w lv L) (hlen : L.length ≤ 1000000) (harg : arg < 0 ∨ (0 ≤ arg ∧ arg < g.2)) (ht : IsTm w.heap.size w c0 c1 c2 c3 t) :
    Calls Tryz.prog 23 #[lv, .agg #[.string g.1, .int .i64 g.2], .int .i64 arg, .agg #[c0, c1, c2, c3]] w (WithR w (L.filter (withP g arg t))) := by
  obtain ⟨gs, gn⟩ := g
  change Calls Tryz.prog 23 #[lv, .agg #[.string gs, .int .i64 gn], .int .i64 arg, .agg #[c0, c1, c2, c3]] w (WithR w (L.filter (withP (gs, gn) arg t)))
  simp only at harg
  obtain ⟨al, cl, rfl⟩ := hL.shape
  obtain ⟨W, hW⟩ : ∃ W, (w.alloc (.cells #[.string gs, .int .i64 gn] 41)).alloc (.cells #[c0, c1, c2, c3] 46) = W := ⟨_, rfl⟩
  obtain ⟨hb, k1, k2⟩ := alloc2 w (.cells #[.string gs, .int .i64 gn] 41) (.cells #[c0, c1, c2, c3] 46)
  rw [hW] at hb k1 k2
  have HL := Lib.hid (hL.below hb)
  have HTM := Lib.hid ((ht.below hb).mono hb.size)
  have HB := Lib.hid hb
  obtain ⟨m, hm⟩ : ∃ m, w.heap.size = m := ⟨_, rfl⟩
  have HK := Lib.hid (And.intro (hm ▸ k1) (hm ▸ k2))
  have hk3 : ∃ k n s us, c0 = .int .u8 k ∧ c1 = .int .i64 n ∧ c2 = .string s ∧ ∃ ta tc, c3 = .slice ta (us : List Tm).length tc := by
    obtain ⟨k, n, s, us⟩ := t
    simp only [IsTm] at ht
    obtain ⟨rfl, _, rfl, _, rfl, _, a, cap, rfl, _, _⟩ := ht
    exact ⟨k, n, s, us, rfl, rfl, rfl, a, cap, rfl⟩
  obtain ⟨tk, tn, ts, tu, rfl, rfl, rfl, ta, tc, rfl⟩ := hk3
  clear hL ht hb k1 k2
  go_enter Tryz.func23, Tryz.ntmps23
  refine wp_seq_k fun K0 hK0 => ?_
  have HK0 := Lib.hid hK0
  clear hK0
  go_wp2_with fail
  try rw [hW]
  try simp only [hm]
  clear hW
  refine HK0.out _ _ ?_
  clear HK0
  have HARG := Lib.hid harg
  clear harg
  have HB0 := Lib.hid (show Below m w W from hm ▸ HB.out)
  go_wp2_with fail
  go_loopw [9, 10] (fun v i wr => ∃ (j : Nat), j ≤ L.length ∧ i = .int .i64 j ∧ LstO W.heap.size wr v ((L.take j).filter (withP (gs, gn) arg t)) ∧ Below W.heap.size W wr) (fun _ i _ => L.length - (intOf i).toNat)
  case atStart => exact ⟨0, by omega, by go_num, ⟨[], World.ownsRow_nil _ _ _ _, rfl⟩, Below.refl _ _⟩
  case round =>
    obtain ⟨j, hj, rfl, hr, hBr⟩ := hrel
    by_cases hlt : j < L.length
    · obtain ⟨gl, cc, ax, cx, e, g0, g1, hxx0⟩ := HL.out.at j hlt
      simp only [Value.slice.injEq] at e
      obtain ⟨rfl, _, rfl⟩ := e
      replace g0 := (hBr.cell (p := ⟨gl, j * 2, none⟩) (block_lt_of_cell g0)).trans g0
      replace g1 := (hBr.cell (p := ⟨gl, j * 2 + 1, none⟩) (block_lt_of_cell g1)).trans g1
      have hxx := hxx0.below hBr
      have hft := filter_take (withP (gs, gn) arg t) L j hlt
      have hnl : ((L.take j).filter (withP (gs, gn) arg t)).length ≤ 1000000 := Nat.le_trans (List.length_filter_le _ _) (by rw [List.length_take]; omega)
      obtain ⟨Q, hQ⟩ : ∃ Q, (L.take j).filter (withP (gs, gn) arg t) = Q := ⟨_, rfl⟩
      rw [hQ] at hft hnl hr
      obtain ⟨x, hx1⟩ : ∃ x, L[j] = x := ⟨_, rfl⟩
      rw [hx1] at g0 g1 hxx hft hxx0
      obtain ⟨p, us⟩ := x
      simp only at g0 g1 hxx hxx0
      have HX0 := Lib.hid hxx0
      obtain ⟨xs, ho, hf⟩ := hr
      obtain ⟨va, vc, rfl⟩ := own_slice ho
      have G0 := Lib.hid g0
      have G1 := Lib.hid g1
      have HXX := Lib.hid hxx
      have HFT := Lib.hid hft
      have HNL := Lib.hid hnl
      have HO := Lib.hid ho
      have HF := Lib.hid hf
      have HBR := Lib.hid hBr
      have HR1 := Lib.hid ((hBr.block m (Array.getElem?_eq_some_iff.1 HK.out.1).1).trans HK.out.1)
      have HR2 := Lib.hid ((hBr.block (m + 1) (Array.getElem?_eq_some_iff.1 HK.out.2).1).trans HK.out.2)
      have HTR := Lib.hid ((HTM.out.below hBr).mono hBr.size)
      have i1 : (0 : Int) ≤ (j : Int) := by omega
      have i2 : (j : Int) < (L.length : Int) := by omega
      clear hx1 g0 g1 hxx hxx0 hft hnl hQ ho hf hBr
      cases e1 : (p.toList == gs.toList) with
      | false =>
        have HE := Lib.hid (show withP (gs, gn) arg t (p, us) = false by unfold withP; simp only [e1, Bool.false_and])
        go_wp2_with fail
        have hst := @FL_grow [fV (.slice (some ⟨gl, 0, none⟩) L.length cl), fV (.int .i64 j), fV (.pointer (some ⟨gl, j * 2, none⟩)), fV (.pointer (some ⟨gl, j * 2, none⟩)), fV (.string p), fV (.pointer (some ⟨m, 0, none⟩)), fV (.string gs), fV (.bool false), fV (.bool false), fV undef, fV undef, fV undef, fV undef, fV undef, fV undef, fV undef, fV undef, fV undef, fV (.bool false), fV (.bool false), fV undef, fV undef, fV undef, fV undef, fV undef, fV undef, fV undef, fV undef, fV undef, fV undef, fV undef, fV undef, fV undef, fV undef, fV (.bool false)] (by
          intro F hF
          simp only [List.mem_cons, List.not_mem_nil, or_false] at hF
          rcases hF with rfl | rfl | rfl | rfl | rfl | rfl | rfl | rfl | rfl | rfl | rfl | rfl | rfl | rfl | rfl | rfl | rfl | rfl | rfl | rfl | rfl | rfl | rfl | rfl | rfl | rfl | rfl | rfl | rfl | rfl | rfl | rfl | rfl | rfl | rfl <;> first | exact fV_stays _)
        refine wp_region_grow_orB (by kernel_rfl) (FL [fV (.slice (some ⟨gl, 0, none⟩) L.length cl), fV (.int .i64 j), fV (.pointer (some ⟨gl, j * 2, none⟩)), fV (.pointer (some ⟨gl, j * 2, none⟩)), fV (.string p), fV (.pointer (some ⟨m, 0, none⟩)), fV (.string gs), fV (.bool false), fV (.bool false), fV undef, fV undef, fV undef, fV undef, fV undef, fV undef, fV undef, fV undef, fV undef, fV (.bool false), fV (.bool false), fV undef, fV undef, fV undef, fV undef, fV undef, fV undef, fV undef, fV undef, fV undef, fV undef, fV undef, fV undef, fV undef, fV undef, fV (.bool false)]) hst (by kernel_rfl) (steps_or ?_) ?_
        · refine ⟨?_, ?_, ?_, ?_, ?_, ?_, ?_, ?_, ?_, ?_, ?_, ?_, ?_, ?_, ?_, ?_, ?_, ?_, ?_, ?_, ?_, ?_, ?_, ?_, ?_, ?_, ?_, ?_, ?_, ?_, ?_, ?_, ?_, ?_, ?_, trivial⟩
          · intro a wx hb hd hs ho hp
            refine Or.inl ⟨rfl, ?_⟩
            have h0 : a.tmps.getD 0 undef = .slice (some ⟨gl, 0, none⟩) L.length cl := (ho 0 (by kernel_rfl)).trans rfl
            unfold Oper.wp
            go_simp
            exact Stepped.at (v := .slice (some ⟨gl, 0, none⟩) L.length cl) (by first | rfl | simp) hd (Below.refl _ _) rfl
          · intro a wx hb hd hs ho hp
            refine Or.inl ⟨rfl, ?_⟩
            have h10 : a.tmps.getD 10 undef = .int .i64 j := (ho 10 (by kernel_rfl)).trans rfl
            unfold Oper.wp
            go_simp
            exact Stepped.at (v := .int .i64 j) (by first | rfl | simp) hd (Below.refl _ _) rfl
          · intro a wx hb hd hs ho hp
            refine Or.inl ⟨rfl, ?_⟩
            have h17 : a.tmps.getD 17 undef = .slice (some ⟨gl, 0, none⟩) L.length cl := facts_at hp 0 17 (by kernel_rfl)
            have h18 : a.tmps.getD 18 undef = .int .i64 j := facts_at hp 1 18 (by kernel_rfl)
            unfold Oper.wp
            go_simp
            exact Stepped.at (v := .pointer (some ⟨gl, j * 2, none⟩)) (by first | rfl | simp) hd (Below.refl _ _) rfl
          · intro a wx hb hd hs ho hp
            refine Or.inl ⟨rfl, ?_⟩
            have h19 : a.tmps.getD 19 undef = .pointer (some ⟨gl, j * 2, none⟩) := facts_at hp 2 19 (by kernel_rfl)
            unfold Oper.wp
            go_simp
            exact Stepped.at (v := .pointer (some ⟨gl, j * 2, none⟩)) (by first | rfl | simp) hd (Below.refl _ _) rfl
          · intro a wx hb hd hs ho hp
            refine Or.inl ⟨rfl, ?_⟩
            have h20 : a.tmps.getD 20 undef = .pointer (some ⟨gl, j * 2, none⟩) := facts_at hp 3 20 (by kernel_rfl)
            have x0 := (hb.cell (block_lt_of_cell G0.out)).trans G0.out
            unfold Oper.wp
            go_simp
            exact Stepped.at (v := .string p) (by first | rfl | simp) hd (Below.refl _ _) rfl
          · intro a wx hb hd hs ho hp
            refine Or.inl ⟨rfl, ?_⟩
            have h5 : a.tmps.getD 5 undef = .pointer (some ⟨m, 0, none⟩) := (ho 5 (by kernel_rfl)).trans rfl
            unfold Oper.wp
            go_simp
            exact Stepped.at (v := .pointer (some ⟨m, 0, none⟩)) (by first | rfl | simp) hd (Below.refl _ _) rfl
          · intro a wx hb hd hs ho hp
            refine Or.inl ⟨rfl, ?_⟩
            have h22 : a.tmps.getD 22 undef = .pointer (some ⟨m, 0, none⟩) := facts_at hp 5 22 (by kernel_rfl)
            have hx := (hb.block m (Array.getElem?_eq_some_iff.1 HR1.out).1).trans HR1.out
            have x0 := cells_at hx 0 _ rfl
            unfold Oper.wp
            go_simp
            exact Stepped.at (v := .string gs) (by first | rfl | simp) hd (Below.refl _ _) rfl
          · intro a wx hb hd hs ho hp
            refine Or.inl ⟨rfl, ?_⟩
            have h21 : a.tmps.getD 21 undef = .string p := facts_at hp 4 21 (by kernel_rfl)
            have h23 : a.tmps.getD 23 undef = .string gs := facts_at hp 6 23 (by kernel_rfl)
            unfold Oper.wp
            go_simp
            exact Stepped.at (v := .bool false) (by first | rfl | simp) hd (Below.refl _ _) rfl
          · intro a wx hb hd hs ho hp
            refine Or.inl ⟨rfl, ?_⟩
            have h24 : a.tmps.getD 24 undef = .bool false := facts_at hp 7 24 (by kernel_rfl)
            unfold Oper.wp
            go_simp
            exact Stepped.at (v := .bool false) (by first | rfl | simp) hd (Below.refl _ _) rfl
          · intro a wx hb hd hs ho hp
            exact Or.inr ⟨wanted_no rfl (yielded_at (k := 8) (d := 25) (by kernel_rfl) (show a.tmps.getD 25 undef = _ from facts_at hp 8 25 (by kernel_rfl))), fun _ _ => rfl⟩
          · intro a wx hb hd hs ho hp
            exact Or.inr ⟨wanted_no rfl (yielded_at (k := 8) (d := 25) (by kernel_rfl) (show a.tmps.getD 25 undef = _ from facts_at hp 8 25 (by kernel_rfl))), fun _ _ => rfl⟩
          · intro a wx hb hd hs ho hp
            exact Or.inr ⟨wanted_no rfl (yielded_at (k := 8) (d := 25) (by kernel_rfl) (show a.tmps.getD 25 undef = _ from facts_at hp 8 25 (by kernel_rfl))), fun _ _ => rfl⟩
          · intro a wx hb hd hs ho hp
            exact Or.inr ⟨wanted_no rfl (yielded_at (k := 8) (d := 25) (by kernel_rfl) (show a.tmps.getD 25 undef = _ from facts_at hp 8 25 (by kernel_rfl))), fun _ _ => rfl⟩
          · intro a wx hb hd hs ho hp
            exact Or.inr ⟨wanted_no rfl (yielded_at (k := 8) (d := 25) (by kernel_rfl) (show a.tmps.getD 25 undef = _ from facts_at hp 8 25 (by kernel_rfl))), fun _ _ => rfl⟩
          · intro a wx hb hd hs ho hp
            exact Or.inr ⟨wanted_no rfl (yielded_at (k := 8) (d := 25) (by kernel_rfl) (show a.tmps.getD 25 undef = _ from facts_at hp 8 25 (by kernel_rfl))), fun _ _ => rfl⟩
          · intro a wx hb hd hs ho hp
            exact Or.inr ⟨wanted_no rfl (yielded_at (k := 8) (d := 25) (by kernel_rfl) (show a.tmps.getD 25 undef = _ from facts_at hp 8 25 (by kernel_rfl))), fun _ _ => rfl⟩
          · intro a wx hb hd hs ho hp
            exact Or.inr ⟨wanted_no rfl (yielded_at (k := 8) (d := 25) (by kernel_rfl) (show a.tmps.getD 25 undef = _ from facts_at hp 8 25 (by kernel_rfl))), fun _ _ => rfl⟩
          · intro a wx hb hd hs ho hp
            exact Or.inr ⟨wanted_no rfl (yielded_at (k := 8) (d := 25) (by kernel_rfl) (show a.tmps.getD 25 undef = _ from facts_at hp 8 25 (by kernel_rfl))), fun _ _ => rfl⟩
          · intro a wx hb hd hs ho hp
            refine Or.inl ⟨rfl, ?_⟩
            have h25 : a.tmps.getD 25 undef = .bool false := facts_at hp 8 25 (by kernel_rfl)
            have h34 : a.tmps.getD 34 undef = undef := facts_at hp 17 34 (by kernel_rfl)
            unfold Oper.wp
            go_simp
            exact Stepped.at (v := .bool false) (by first | rfl | simp) hd (Below.refl _ _) rfl
          · intro a wx hb hd hs ho hp
            refine Or.inl ⟨rfl, ?_⟩
            have h35 : a.tmps.getD 35 undef = .bool false := facts_at hp 18 35 (by kernel_rfl)
            unfold Oper.wp
            go_simp
            exact Stepped.at (v := .bool false) (by first | rfl | simp) hd (Below.refl _ _) rfl
          · intro a wx hb hd hs ho hp
            exact Or.inr ⟨wanted_no rfl (yielded_at (k := 19) (d := 36) (by kernel_rfl) (show a.tmps.getD 36 undef = _ from facts_at hp 19 36 (by kernel_rfl))), fun _ _ => rfl⟩
          · intro a wx hb hd hs ho hp
            exact Or.inr ⟨wanted_no rfl (yielded_at (k := 19) (d := 36) (by kernel_rfl) (show a.tmps.getD 36 undef = _ from facts_at hp 19 36 (by kernel_rfl))), fun _ _ => rfl⟩
          · intro a wx hb hd hs ho hp
            exact Or.inr ⟨wanted_no rfl (yielded_at (k := 19) (d := 36) (by kernel_rfl) (show a.tmps.getD 36 undef = _ from facts_at hp 19 36 (by kernel_rfl))), fun _ _ => rfl⟩
          · intro a wx hb hd hs ho hp
            exact Or.inr ⟨wanted_un (k := 22) (d := 39) rfl (by kernel_rfl) (show a.tmps.getD 39 undef = _ from facts_at hp 22 39 (by kernel_rfl)), fun _ _ => rfl⟩
          · intro a wx hb hd hs ho hp
            exact Or.inr ⟨wanted_un (k := 22) (d := 39) rfl (by kernel_rfl) (show a.tmps.getD 39 undef = _ from facts_at hp 22 39 (by kernel_rfl)), fun _ _ => rfl⟩
          · intro a wx hb hd hs ho hp
            exact Or.inr ⟨wanted_un (k := 22) (d := 39) rfl (by kernel_rfl) (show a.tmps.getD 39 undef = _ from facts_at hp 22 39 (by kernel_rfl)), fun _ _ => rfl⟩
          · intro a wx hb hd hs ho hp
            exact Or.inr ⟨wanted_un (k := 22) (d := 39) rfl (by kernel_rfl) (show a.tmps.getD 39 undef = _ from facts_at hp 22 39 (by kernel_rfl)), fun _ _ => rfl⟩
          · intro a wx hb hd hs ho hp
            exact Or.inr ⟨wanted_un (k := 22) (d := 39) rfl (by kernel_rfl) (show a.tmps.getD 39 undef = _ from facts_at hp 22 39 (by kernel_rfl)), fun _ _ => rfl⟩
          · intro a wx hb hd hs ho hp
            exact Or.inr ⟨wanted_un (k := 22) (d := 39) rfl (by kernel_rfl) (show a.tmps.getD 39 undef = _ from facts_at hp 22 39 (by kernel_rfl)), fun _ _ => rfl⟩
          · intro a wx hb hd hs ho hp
            exact Or.inr ⟨wanted_un (k := 22) (d := 39) rfl (by kernel_rfl) (show a.tmps.getD 39 undef = _ from facts_at hp 22 39 (by kernel_rfl)), fun _ _ => rfl⟩
          · intro a wx hb hd hs ho hp
            exact Or.inr ⟨wanted_un (k := 22) (d := 39) rfl (by kernel_rfl) (show a.tmps.getD 39 undef = _ from facts_at hp 22 39 (by kernel_rfl)), fun _ _ => rfl⟩
          · intro a wx hb hd hs ho hp
            exact Or.inr ⟨wanted_un (k := 22) (d := 39) rfl (by kernel_rfl) (show a.tmps.getD 39 undef = _ from facts_at hp 22 39 (by kernel_rfl)), fun _ _ => rfl⟩
          · intro a wx hb hd hs ho hp
            exact Or.inr ⟨wanted_un (k := 22) (d := 39) rfl (by kernel_rfl) (show a.tmps.getD 39 undef = _ from facts_at hp 22 39 (by kernel_rfl)), fun _ _ => rfl⟩
          · intro a wx hb hd hs ho hp
            exact Or.inr ⟨wanted_no rfl (yielded_at (k := 19) (d := 36) (by kernel_rfl) (show a.tmps.getD 36 undef = _ from facts_at hp 19 36 (by kernel_rfl))), fun _ _ => rfl⟩
          · intro a wx hb hd hs ho hp
            refine Or.inl ⟨rfl, ?_⟩
            have h36 : a.tmps.getD 36 undef = .bool false := facts_at hp 19 36 (by kernel_rfl)
            have h50 : a.tmps.getD 50 undef = undef := facts_at hp 33 50 (by kernel_rfl)
            unfold Oper.wp
            go_simp
            exact Stepped.at (v := .bool false) (by first | rfl | simp) hd (Below.refl _ _) rfl
        intro ac W8 hJ
        obtain ⟨u17, f17⟩ : ∃ u, ac.tmps.getD 17 undef = u := ⟨_, rfl⟩
        obtain ⟨u18, f18⟩ : ∃ u, ac.tmps.getD 18 undef = u := ⟨_, rfl⟩
        obtain ⟨u19, f19⟩ : ∃ u, ac.tmps.getD 19 undef = u := ⟨_, rfl⟩
        obtain ⟨u20, f20⟩ : ∃ u, ac.tmps.getD 20 undef = u := ⟨_, rfl⟩
        obtain ⟨u21, f21⟩ : ∃ u, ac.tmps.getD 21 undef = u := ⟨_, rfl⟩
        obtain ⟨u22, f22⟩ : ∃ u, ac.tmps.getD 22 undef = u := ⟨_, rfl⟩
        obtain ⟨u23, f23⟩ : ∃ u, ac.tmps.getD 23 undef = u := ⟨_, rfl⟩
        obtain ⟨u24, f24⟩ : ∃ u, ac.tmps.getD 24 undef = u := ⟨_, rfl⟩
        obtain ⟨u25, f25⟩ : ∃ u, ac.tmps.getD 25 undef = u := ⟨_, rfl⟩
        obtain ⟨u26, f26⟩ : ∃ u, ac.tmps.getD 26 undef = u := ⟨_, rfl⟩
        obtain ⟨u27, f27⟩ : ∃ u, ac.tmps.getD 27 undef = u := ⟨_, rfl⟩
        obtain ⟨u28, f28⟩ : ∃ u, ac.tmps.getD 28 undef = u := ⟨_, rfl⟩
        obtain ⟨u29, f29⟩ : ∃ u, ac.tmps.getD 29 undef = u := ⟨_, rfl⟩
        obtain ⟨u30, f30⟩ : ∃ u, ac.tmps.getD 30 undef = u := ⟨_, rfl⟩
        obtain ⟨u31, f31⟩ : ∃ u, ac.tmps.getD 31 undef = u := ⟨_, rfl⟩
        obtain ⟨u32, f32⟩ : ∃ u, ac.tmps.getD 32 undef = u := ⟨_, rfl⟩
        obtain ⟨u33, f33⟩ : ∃ u, ac.tmps.getD 33 undef = u := ⟨_, rfl⟩
        obtain ⟨u34, f34⟩ : ∃ u, ac.tmps.getD 34 undef = u := ⟨_, rfl⟩
        obtain ⟨u35, f35⟩ : ∃ u, ac.tmps.getD 35 undef = u := ⟨_, rfl⟩
        obtain ⟨u36, f36⟩ : ∃ u, ac.tmps.getD 36 undef = u := ⟨_, rfl⟩
        obtain ⟨u37, f37⟩ : ∃ u, ac.tmps.getD 37 undef = u := ⟨_, rfl⟩
        obtain ⟨u38, f38⟩ : ∃ u, ac.tmps.getD 38 undef = u := ⟨_, rfl⟩
        obtain ⟨u39, f39⟩ : ∃ u, ac.tmps.getD 39 undef = u := ⟨_, rfl⟩
        obtain ⟨u40, f40⟩ : ∃ u, ac.tmps.getD 40 undef = u := ⟨_, rfl⟩
        obtain ⟨u41, f41⟩ : ∃ u, ac.tmps.getD 41 undef = u := ⟨_, rfl⟩
        obtain ⟨u42, f42⟩ : ∃ u, ac.tmps.getD 42 undef = u := ⟨_, rfl⟩
        obtain ⟨u43, f43⟩ : ∃ u, ac.tmps.getD 43 undef = u := ⟨_, rfl⟩
        obtain ⟨u44, f44⟩ : ∃ u, ac.tmps.getD 44 undef = u := ⟨_, rfl⟩
        obtain ⟨u45, f45⟩ : ∃ u, ac.tmps.getD 45 undef = u := ⟨_, rfl⟩
        obtain ⟨u46, f46⟩ : ∃ u, ac.tmps.getD 46 undef = u := ⟨_, rfl⟩
        obtain ⟨u47, f47⟩ : ∃ u, ac.tmps.getD 47 undef = u := ⟨_, rfl⟩
        obtain ⟨u48, f48⟩ : ∃ u, ac.tmps.getD 48 undef = u := ⟨_, rfl⟩
        obtain ⟨u49, f49⟩ : ∃ u, ac.tmps.getD 49 undef = u := ⟨_, rfl⟩
        obtain ⟨u50, f50⟩ : ∃ u, ac.tmps.getD 50 undef = u := ⟨_, rfl⟩
        have f51 : ac.tmps.getD 51 undef = .bool false := hJ.at_end 34 51 (by kernel_rfl)
        have hBelow := hJ.below
        obtain ⟨TT, DD⟩ := ac
        obtain rfl : DD = [] := hJ.defers
        have hE := slots_merge [false, false, false, false, false, false, false, false, false, false, false, false, false, false, false, false, false, true, true, true, true, true, true, true, true, true, true, true, true, true, true, true, true, true, true, true, true, true, true, true, true, true, true, true, true, true, true, true, true, true, true, true, false, false, false, false, false, false, false, false] 60 hJ.tmps rfl (by kernel_rfl) hJ.outer
        simp only [mergeFrom, Nat.zero_add, Nat.reduceAdd, f17, f18, f19, f20, f21, f22, f23, f24, f25, f26, f27, f28, f29, f30, f31, f32, f33, f34, f35, f36, f37, f38, f39, f40, f41, f42, f43, f44, f45, f46, f47, f48, f49, f50, f51] at hE
        clear hst hJ f17 f18 f19 f20 f21 f22 f23 f24 f25 f26 f27 f28 f29 f30 f31 f32 f33 f34 f35 f36 f37 f38 f39 f40 f41 f42 f43 f44 f45 f46 f47 f48 f49 f50 f51
        subst hE
        have HBZ := Lib.hid (HBR.out.trans (hBelow.mono HBR.out.size))
        have HNW := Lib.hid (show LstO W.heap.size W8 (.slice va Q.length vc) ((L.take (j + 1)).filter (withP (gs, gn) arg t)) from by
          rw [HFT.out, HE.out]
          simp only [Bool.false_eq_true, if_false, List.append_nil]
          exact ⟨xs, own_grown' HO.out hBelow, HF.out.same (fun _ h => h) (fun b h => hBelow.block b (Nat.lt_of_lt_of_le h HBR.out.size))⟩)
        clear hBelow
        go_wp2
        go_roundw
        case rel => exact ⟨j + 1, by omega, by go_num, HNW.out, HBZ.out⟩
        case measure => simp [intOf]; omega
      | true =>
        by_cases e2 : us.length = gn
        · have hn2 : ((us.length : Int) == (gn : Int)) = true := by simp [e2]
          by_cases e3 : arg < 0
          · have HE := Lib.hid (show withP (gs, gn) arg t (p, us) = true by unfold withP; simp only [e1, e2, decide_true, Bool.true_and, decide_eq_true e3, Bool.true_or])
            have E2 := Lib.hid e2
            clear e2
            go_wp2_with fail
            have hst := @FL_grow [fV (.slice (some ⟨gl, 0, none⟩) L.length cl), fV (.int .i64 j), fV (.pointer (some ⟨gl, j * 2, none⟩)), fV (.pointer (some ⟨gl, j * 2, none⟩)), fV (.string p), fV (.pointer (some ⟨m, 0, none⟩)), fV (.string gs), fV (.bool true), fV (.bool true), fV (.slice (some ⟨gl, 0, none⟩) L.length cl), fV (.int .i64 j), fV (.pointer (some ⟨gl, j * 2, none⟩)), fV (.pointer (some ⟨gl, j * 2 + 1, none⟩)), fV (.slice ax us.length cx), fV (.int .i64 us.length), fV (.pointer (some ⟨m, 1, none⟩)), fV (.int .i64 gn), fV (.bool true), fV (.bool true), fV (.bool true), fV (.int .i64 arg), fV (.bool true), fV (.bool true), fV undef, fV undef, fV undef, fV undef, fV undef, fV undef, fV undef, fV undef, fV undef, fV undef, fV (.bool true), fV (.bool true)] (by
              intro F hF
              simp only [List.mem_cons, List.not_mem_nil, or_false] at hF
              rcases hF with rfl | rfl | rfl | rfl | rfl | rfl | rfl | rfl | rfl | rfl | rfl | rfl | rfl | rfl | rfl | rfl | rfl | rfl | rfl | rfl | rfl | rfl | rfl | rfl | rfl | rfl | rfl | rfl | rfl | rfl | rfl | rfl | rfl | rfl | rfl <;> first | exact fV_stays _)
            refine wp_region_grow_orB (by kernel_rfl) (FL [fV (.slice (some ⟨gl, 0, none⟩) L.length cl), fV (.int .i64 j), fV (.pointer (some ⟨gl, j * 2, none⟩)), fV (.pointer (some ⟨gl, j * 2, none⟩)), fV (.string p), fV (.pointer (some ⟨m, 0, none⟩)), fV (.string gs), fV (.bool true), fV (.bool true), fV (.slice (some ⟨gl, 0, none⟩) L.length cl), fV (.int .i64 j), fV (.pointer (some ⟨gl, j * 2, none⟩)), fV (.pointer (some ⟨gl, j * 2 + 1, none⟩)), fV (.slice ax us.length cx), fV (.int .i64 us.length), fV (.pointer (some ⟨m, 1, none⟩)), fV (.int .i64 gn), fV (.bool true), fV (.bool true), fV (.bool true), fV (.int .i64 arg), fV (.bool true), fV (.bool true), fV undef, fV undef, fV undef, fV undef, fV undef, fV undef, fV undef, fV undef, fV undef, fV undef, fV (.bool true), fV (.bool true)]) hst (by kernel_rfl) (steps_or ?_) ?_
            · refine ⟨?_, ?_, ?_, ?_, ?_, ?_, ?_, ?_, ?_, ?_, ?_, ?_, ?_, ?_, ?_, ?_, ?_, ?_, ?_, ?_, ?_, ?_, ?_, ?_, ?_, ?_, ?_, ?_, ?_, ?_, ?_, ?_, ?_, ?_, ?_, trivial⟩
              · intro a wx hb hd hs ho hp
                refine Or.inl ⟨rfl, ?_⟩
                have h0 : a.tmps.getD 0 undef = .slice (some ⟨gl, 0, none⟩) L.length cl := (ho 0 (by kernel_rfl)).trans rfl
                unfold Oper.wp
                go_simp
                exact Stepped.at (v := .slice (some ⟨gl, 0, none⟩) L.length cl) (by first | rfl | simp) hd (Below.refl _ _) rfl
              · intro a wx hb hd hs ho hp
                refine Or.inl ⟨rfl, ?_⟩
                have h10 : a.tmps.getD 10 undef = .int .i64 j := (ho 10 (by kernel_rfl)).trans rfl
                unfold Oper.wp
                go_simp
                exact Stepped.at (v := .int .i64 j) (by first | rfl | simp) hd (Below.refl _ _) rfl
              · intro a wx hb hd hs ho hp
                refine Or.inl ⟨rfl, ?_⟩
                have h17 : a.tmps.getD 17 undef = .slice (some ⟨gl, 0, none⟩) L.length cl := facts_at hp 0 17 (by kernel_rfl)
                have h18 : a.tmps.getD 18 undef = .int .i64 j := facts_at hp 1 18 (by kernel_rfl)
                unfold Oper.wp
                go_simp
                exact Stepped.at (v := .pointer (some ⟨gl, j * 2, none⟩)) (by first | rfl | simp) hd (Below.refl _ _) rfl
              · intro a wx hb hd hs ho hp
                refine Or.inl ⟨rfl, ?_⟩
                have h19 : a.tmps.getD 19 undef = .pointer (some ⟨gl, j * 2, none⟩) := facts_at hp 2 19 (by kernel_rfl)
                unfold Oper.wp
                go_simp
                exact Stepped.at (v := .pointer (some ⟨gl, j * 2, none⟩)) (by first | rfl | simp) hd (Below.refl _ _) rfl
              · intro a wx hb hd hs ho hp
                refine Or.inl ⟨rfl, ?_⟩
                have h20 : a.tmps.getD 20 undef = .pointer (some ⟨gl, j * 2, none⟩) := facts_at hp 3 20 (by kernel_rfl)
                have x0 := (hb.cell (block_lt_of_cell G0.out)).trans G0.out
                unfold Oper.wp
                go_simp
                exact Stepped.at (v := .string p) (by first | rfl | simp) hd (Below.refl _ _) rfl
              · intro a wx hb hd hs ho hp
                refine Or.inl ⟨rfl, ?_⟩
                have h5 : a.tmps.getD 5 undef = .pointer (some ⟨m, 0, none⟩) := (ho 5 (by kernel_rfl)).trans rfl
                unfold Oper.wp
                go_simp
                exact Stepped.at (v := .pointer (some ⟨m, 0, none⟩)) (by first | rfl | simp) hd (Below.refl _ _) rfl
              · intro a wx hb hd hs ho hp
                refine Or.inl ⟨rfl, ?_⟩
                have h22 : a.tmps.getD 22 undef = .pointer (some ⟨m, 0, none⟩) := facts_at hp 5 22 (by kernel_rfl)
                have hx := (hb.block m (Array.getElem?_eq_some_iff.1 HR1.out).1).trans HR1.out
                have x0 := cells_at hx 0 _ rfl
                unfold Oper.wp
                go_simp
                exact Stepped.at (v := .string gs) (by first | rfl | simp) hd (Below.refl _ _) rfl
              · intro a wx hb hd hs ho hp
                refine Or.inl ⟨rfl, ?_⟩
                have h21 : a.tmps.getD 21 undef = .string p := facts_at hp 4 21 (by kernel_rfl)
                have h23 : a.tmps.getD 23 undef = .string gs := facts_at hp 6 23 (by kernel_rfl)
                unfold Oper.wp
                go_simp
                exact Stepped.at (v := .bool true) (by first | rfl | simp) hd (Below.refl _ _) rfl
              · intro a wx hb hd hs ho hp
                refine Or.inl ⟨rfl, ?_⟩
                have h24 : a.tmps.getD 24 undef = .bool true := facts_at hp 7 24 (by kernel_rfl)
                unfold Oper.wp
                go_simp
                exact Stepped.at (v := .bool true) (by first | rfl | simp) hd (Below.refl _ _) rfl
              · intro a wx hb hd hs ho hp
                refine Or.inl ⟨wanted_yes rfl (yielded_at (k := 8) (d := 25) (by kernel_rfl) (show a.tmps.getD 25 undef = _ from facts_at hp 8 25 (by kernel_rfl))), ?_⟩
                have h0 : a.tmps.getD 0 undef = .slice (some ⟨gl, 0, none⟩) L.length cl := (ho 0 (by kernel_rfl)).trans rfl
                unfold Oper.wp
                go_simp
                exact Stepped.at (v := .slice (some ⟨gl, 0, none⟩) L.length cl) (by first | rfl | simp) hd (Below.refl _ _) rfl
              · intro a wx hb hd hs ho hp
                refine Or.inl ⟨wanted_yes rfl (yielded_at (k := 8) (d := 25) (by kernel_rfl) (show a.tmps.getD 25 undef = _ from facts_at hp 8 25 (by kernel_rfl))), ?_⟩
                have h10 : a.tmps.getD 10 undef = .int .i64 j := (ho 10 (by kernel_rfl)).trans rfl
                unfold Oper.wp
                go_simp
                exact Stepped.at (v := .int .i64 j) (by first | rfl | simp) hd (Below.refl _ _) rfl
              · intro a wx hb hd hs ho hp
                refine Or.inl ⟨wanted_yes rfl (yielded_at (k := 8) (d := 25) (by kernel_rfl) (show a.tmps.getD 25 undef = _ from facts_at hp 8 25 (by kernel_rfl))), ?_⟩
                have h26 : a.tmps.getD 26 undef = .slice (some ⟨gl, 0, none⟩) L.length cl := facts_at hp 9 26 (by kernel_rfl)
                have h27 : a.tmps.getD 27 undef = .int .i64 j := facts_at hp 10 27 (by kernel_rfl)
                unfold Oper.wp
                go_simp
                exact Stepped.at (v := .pointer (some ⟨gl, j * 2, none⟩)) (by first | rfl | simp) hd (Below.refl _ _) rfl
              · intro a wx hb hd hs ho hp
                refine Or.inl ⟨wanted_yes rfl (yielded_at (k := 8) (d := 25) (by kernel_rfl) (show a.tmps.getD 25 undef = _ from facts_at hp 8 25 (by kernel_rfl))), ?_⟩
                have h28 : a.tmps.getD 28 undef = .pointer (some ⟨gl, j * 2, none⟩) := facts_at hp 11 28 (by kernel_rfl)
                unfold Oper.wp
                go_simp
                exact Stepped.at (v := .pointer (some ⟨gl, j * 2 + 1, none⟩)) (by first | rfl | simp) hd (Below.refl _ _) rfl
              · intro a wx hb hd hs ho hp
                refine Or.inl ⟨wanted_yes rfl (yielded_at (k := 8) (d := 25) (by kernel_rfl) (show a.tmps.getD 25 undef = _ from facts_at hp 8 25 (by kernel_rfl))), ?_⟩
                have h29 : a.tmps.getD 29 undef = .pointer (some ⟨gl, j * 2 + 1, none⟩) := facts_at hp 12 29 (by kernel_rfl)
                have x0 := (hb.cell (block_lt_of_cell G1.out)).trans G1.out
                unfold Oper.wp
                go_simp
                exact Stepped.at (v := .slice ax us.length cx) (by first | rfl | simp) hd (Below.refl _ _) rfl
              · intro a wx hb hd hs ho hp
                refine Or.inl ⟨wanted_yes rfl (yielded_at (k := 8) (d := 25) (by kernel_rfl) (show a.tmps.getD 25 undef = _ from facts_at hp 8 25 (by kernel_rfl))), ?_⟩
                have h30 : a.tmps.getD 30 undef = .slice ax us.length cx := facts_at hp 13 30 (by kernel_rfl)
                unfold Oper.wp
                go_simp
                exact Stepped.at (v := .int .i64 us.length) (by first | rfl | simp) hd (Below.refl _ _) rfl
              · intro a wx hb hd hs ho hp
                refine Or.inl ⟨wanted_yes rfl (yielded_at (k := 8) (d := 25) (by kernel_rfl) (show a.tmps.getD 25 undef = _ from facts_at hp 8 25 (by kernel_rfl))), ?_⟩
                have h5 : a.tmps.getD 5 undef = .pointer (some ⟨m, 0, none⟩) := (ho 5 (by kernel_rfl)).trans rfl
                unfold Oper.wp
                go_simp
                exact Stepped.at (v := .pointer (some ⟨m, 1, none⟩)) (by first | rfl | simp) hd (Below.refl _ _) rfl
              · intro a wx hb hd hs ho hp
                refine Or.inl ⟨wanted_yes rfl (yielded_at (k := 8) (d := 25) (by kernel_rfl) (show a.tmps.getD 25 undef = _ from facts_at hp 8 25 (by kernel_rfl))), ?_⟩
                have h32 : a.tmps.getD 32 undef = .pointer (some ⟨m, 1, none⟩) := facts_at hp 15 32 (by kernel_rfl)
                have hx := (hb.block m (Array.getElem?_eq_some_iff.1 HR1.out).1).trans HR1.out
                have x1 := cells_at hx 1 _ rfl
                unfold Oper.wp
                go_simp
                exact Stepped.at (v := .int .i64 gn) (by first | rfl | simp) hd (Below.refl _ _) rfl
              · intro a wx hb hd hs ho hp
                refine Or.inl ⟨wanted_yes rfl (yielded_at (k := 8) (d := 25) (by kernel_rfl) (show a.tmps.getD 25 undef = _ from facts_at hp 8 25 (by kernel_rfl))), ?_⟩
                have h31 : a.tmps.getD 31 undef = .int .i64 us.length := facts_at hp 14 31 (by kernel_rfl)
                have h33 : a.tmps.getD 33 undef = .int .i64 gn := facts_at hp 16 33 (by kernel_rfl)
                unfold Oper.wp
                go_simp
                exact Stepped.at (v := .bool true) (by first | rfl | simp) hd (Below.refl _ _) rfl
              · intro a wx hb hd hs ho hp
                refine Or.inl ⟨rfl, ?_⟩
                have h25 : a.tmps.getD 25 undef = .bool true := facts_at hp 8 25 (by kernel_rfl)
                have h34 : a.tmps.getD 34 undef = .bool true := facts_at hp 17 34 (by kernel_rfl)
                unfold Oper.wp
                go_simp
                exact Stepped.at (v := .bool true) (by first | rfl | simp) hd (Below.refl _ _) rfl
              · intro a wx hb hd hs ho hp
                refine Or.inl ⟨rfl, ?_⟩
                have h35 : a.tmps.getD 35 undef = .bool true := facts_at hp 18 35 (by kernel_rfl)
                unfold Oper.wp
                go_simp
                exact Stepped.at (v := .bool true) (by first | rfl | simp) hd (Below.refl _ _) rfl
              · intro a wx hb hd hs ho hp
                refine Or.inl ⟨wanted_yes rfl (yielded_at (k := 19) (d := 36) (by kernel_rfl) (show a.tmps.getD 36 undef = _ from facts_at hp 19 36 (by kernel_rfl))), ?_⟩
                have h2 : a.tmps.getD 2 undef = .int .i64 arg := (ho 2 (by kernel_rfl)).trans rfl
                unfold Oper.wp
                go_simp
                exact Stepped.at (v := .int .i64 arg) (by first | rfl | simp) hd (Below.refl _ _) rfl
              · intro a wx hb hd hs ho hp
                refine Or.inl ⟨wanted_yes rfl (yielded_at (k := 19) (d := 36) (by kernel_rfl) (show a.tmps.getD 36 undef = _ from facts_at hp 19 36 (by kernel_rfl))), ?_⟩
                have h37 : a.tmps.getD 37 undef = .int .i64 arg := facts_at hp 20 37 (by kernel_rfl)
                unfold Oper.wp
                go_simp
                exact Stepped.at (v := .bool true) (by first | rfl | simp) hd (Below.refl _ _) rfl
              · intro a wx hb hd hs ho hp
                refine Or.inl ⟨wanted_yes rfl (yielded_at (k := 19) (d := 36) (by kernel_rfl) (show a.tmps.getD 36 undef = _ from facts_at hp 19 36 (by kernel_rfl))), ?_⟩
                have h38 : a.tmps.getD 38 undef = .bool true := facts_at hp 21 38 (by kernel_rfl)
                unfold Oper.wp
                go_simp
                exact Stepped.at (v := .bool true) (by first | rfl | simp) hd (Below.refl _ _) rfl
              · intro a wx hb hd hs ho hp
                exact Or.inr ⟨wanted_no rfl (yielded_at (k := 22) (d := 39) (by kernel_rfl) (show a.tmps.getD 39 undef = _ from facts_at hp 22 39 (by kernel_rfl))), fun _ _ => rfl⟩
              · intro a wx hb hd hs ho hp
                exact Or.inr ⟨wanted_no rfl (yielded_at (k := 22) (d := 39) (by kernel_rfl) (show a.tmps.getD 39 undef = _ from facts_at hp 22 39 (by kernel_rfl))), fun _ _ => rfl⟩
              · intro a wx hb hd hs ho hp
                exact Or.inr ⟨wanted_no rfl (yielded_at (k := 22) (d := 39) (by kernel_rfl) (show a.tmps.getD 39 undef = _ from facts_at hp 22 39 (by kernel_rfl))), fun _ _ => rfl⟩
              · intro a wx hb hd hs ho hp
                exact Or.inr ⟨wanted_no rfl (yielded_at (k := 22) (d := 39) (by kernel_rfl) (show a.tmps.getD 39 undef = _ from facts_at hp 22 39 (by kernel_rfl))), fun _ _ => rfl⟩
              · intro a wx hb hd hs ho hp
                exact Or.inr ⟨wanted_no rfl (yielded_at (k := 22) (d := 39) (by kernel_rfl) (show a.tmps.getD 39 undef = _ from facts_at hp 22 39 (by kernel_rfl))), fun _ _ => rfl⟩
              · intro a wx hb hd hs ho hp
                exact Or.inr ⟨wanted_no rfl (yielded_at (k := 22) (d := 39) (by kernel_rfl) (show a.tmps.getD 39 undef = _ from facts_at hp 22 39 (by kernel_rfl))), fun _ _ => rfl⟩
              · intro a wx hb hd hs ho hp
                exact Or.inr ⟨wanted_no rfl (yielded_at (k := 22) (d := 39) (by kernel_rfl) (show a.tmps.getD 39 undef = _ from facts_at hp 22 39 (by kernel_rfl))), fun _ _ => rfl⟩
              · intro a wx hb hd hs ho hp
                exact Or.inr ⟨wanted_no rfl (yielded_at (k := 22) (d := 39) (by kernel_rfl) (show a.tmps.getD 39 undef = _ from facts_at hp 22 39 (by kernel_rfl))), fun _ _ => rfl⟩
              · intro a wx hb hd hs ho hp
                exact Or.inr ⟨wanted_no rfl (yielded_at (k := 22) (d := 39) (by kernel_rfl) (show a.tmps.getD 39 undef = _ from facts_at hp 22 39 (by kernel_rfl))), fun _ _ => rfl⟩
              · intro a wx hb hd hs ho hp
                exact Or.inr ⟨wanted_no rfl (yielded_at (k := 22) (d := 39) (by kernel_rfl) (show a.tmps.getD 39 undef = _ from facts_at hp 22 39 (by kernel_rfl))), fun _ _ => rfl⟩
              · intro a wx hb hd hs ho hp
                refine Or.inl ⟨wanted_yes rfl (yielded_at (k := 19) (d := 36) (by kernel_rfl) (show a.tmps.getD 36 undef = _ from facts_at hp 19 36 (by kernel_rfl))), ?_⟩
                have h39 : a.tmps.getD 39 undef = .bool true := facts_at hp 22 39 (by kernel_rfl)
                have h49 : a.tmps.getD 49 undef = undef := facts_at hp 32 49 (by kernel_rfl)
                unfold Oper.wp
                go_simp
                exact Stepped.at (v := .bool true) (by first | rfl | simp) hd (Below.refl _ _) rfl
              · intro a wx hb hd hs ho hp
                refine Or.inl ⟨rfl, ?_⟩
                have h36 : a.tmps.getD 36 undef = .bool true := facts_at hp 19 36 (by kernel_rfl)
                have h50 : a.tmps.getD 50 undef = .bool true := facts_at hp 33 50 (by kernel_rfl)
                unfold Oper.wp
                go_simp
                exact Stepped.at (v := .bool true) (by first | rfl | simp) hd (Below.refl _ _) rfl
            intro ac W8 hJ
            obtain ⟨u17, f17⟩ : ∃ u, ac.tmps.getD 17 undef = u := ⟨_, rfl⟩
            obtain ⟨u18, f18⟩ : ∃ u, ac.tmps.getD 18 undef = u := ⟨_, rfl⟩
            obtain ⟨u19, f19⟩ : ∃ u, ac.tmps.getD 19 undef = u := ⟨_, rfl⟩
            obtain ⟨u20, f20⟩ : ∃ u, ac.tmps.getD 20 undef = u := ⟨_, rfl⟩
            obtain ⟨u21, f21⟩ : ∃ u, ac.tmps.getD 21 undef = u := ⟨_, rfl⟩
            obtain ⟨u22, f22⟩ : ∃ u, ac.tmps.getD 22 undef = u := ⟨_, rfl⟩
            obtain ⟨u23, f23⟩ : ∃ u, ac.tmps.getD 23 undef = u := ⟨_, rfl⟩
            obtain ⟨u24, f24⟩ : ∃ u, ac.tmps.getD 24 undef = u := ⟨_, rfl⟩
            obtain ⟨u25, f25⟩ : ∃ u, ac.tmps.getD 25 undef = u := ⟨_, rfl⟩
            obtain ⟨u26, f26⟩ : ∃ u, ac.tmps.getD 26 undef = u := ⟨_, rfl⟩
            obtain ⟨u27, f27⟩ : ∃ u, ac.tmps.getD 27 undef = u := ⟨_, rfl⟩
            obtain ⟨u28, f28⟩ : ∃ u, ac.tmps.getD 28 undef = u := ⟨_, rfl⟩
            obtain ⟨u29, f29⟩ : ∃ u, ac.tmps.getD 29 undef = u := ⟨_, rfl⟩
            obtain ⟨u30, f30⟩ : ∃ u, ac.tmps.getD 30 undef = u := ⟨_, rfl⟩
            obtain ⟨u31, f31⟩ : ∃ u, ac.tmps.getD 31 undef = u := ⟨_, rfl⟩
            obtain ⟨u32, f32⟩ : ∃ u, ac.tmps.getD 32 undef = u := ⟨_, rfl⟩
            obtain ⟨u33, f33⟩ : ∃ u, ac.tmps.getD 33 undef = u := ⟨_, rfl⟩
            obtain ⟨u34, f34⟩ : ∃ u, ac.tmps.getD 34 undef = u := ⟨_, rfl⟩
            obtain ⟨u35, f35⟩ : ∃ u, ac.tmps.getD 35 undef = u := ⟨_, rfl⟩
            obtain ⟨u36, f36⟩ : ∃ u, ac.tmps.getD 36 undef = u := ⟨_, rfl⟩
            obtain ⟨u37, f37⟩ : ∃ u, ac.tmps.getD 37 undef = u := ⟨_, rfl⟩
            obtain ⟨u38, f38⟩ : ∃ u, ac.tmps.getD 38 undef = u := ⟨_, rfl⟩
            obtain ⟨u39, f39⟩ : ∃ u, ac.tmps.getD 39 undef = u := ⟨_, rfl⟩
            obtain ⟨u40, f40⟩ : ∃ u, ac.tmps.getD 40 undef = u := ⟨_, rfl⟩
            obtain ⟨u41, f41⟩ : ∃ u, ac.tmps.getD 41 undef = u := ⟨_, rfl⟩
            obtain ⟨u42, f42⟩ : ∃ u, ac.tmps.getD 42 undef = u := ⟨_, rfl⟩
            obtain ⟨u43, f43⟩ : ∃ u, ac.tmps.getD 43 undef = u := ⟨_, rfl⟩
            obtain ⟨u44, f44⟩ : ∃ u, ac.tmps.getD 44 undef = u := ⟨_, rfl⟩
            obtain ⟨u45, f45⟩ : ∃ u, ac.tmps.getD 45 undef = u := ⟨_, rfl⟩
            obtain ⟨u46, f46⟩ : ∃ u, ac.tmps.getD 46 undef = u := ⟨_, rfl⟩
            obtain ⟨u47, f47⟩ : ∃ u, ac.tmps.getD 47 undef = u := ⟨_, rfl⟩
            obtain ⟨u48, f48⟩ : ∃ u, ac.tmps.getD 48 undef = u := ⟨_, rfl⟩
            obtain ⟨u49, f49⟩ : ∃ u, ac.tmps.getD 49 undef = u := ⟨_, rfl⟩
            obtain ⟨u50, f50⟩ : ∃ u, ac.tmps.getD 50 undef = u := ⟨_, rfl⟩
            have f51 : ac.tmps.getD 51 undef = .bool true := hJ.at_end 34 51 (by kernel_rfl)
            have hBelow := hJ.below
            obtain ⟨TT, DD⟩ := ac
            obtain rfl : DD = [] := hJ.defers
            have hE := slots_merge [false, false, false, false, false, false, false, false, false, false, false, false, false, false, false, false, false, true, true, true, true, true, true, true, true, true, true, true, true, true, true, true, true, true, true, true, true, true, true, true, true, true, true, true, true, true, true, true, true, true, true, true, false, false, false, false, false, false, false, false] 60 hJ.tmps rfl (by kernel_rfl) hJ.outer
            simp only [mergeFrom, Nat.zero_add, Nat.reduceAdd, f17, f18, f19, f20, f21, f22, f23, f24, f25, f26, f27, f28, f29, f30, f31, f32, f33, f34, f35, f36, f37, f38, f39, f40, f41, f42, f43, f44, f45, f46, f47, f48, f49, f50, f51] at hE
            clear hst hJ f17 f18 f19 f20 f21 f22 f23 f24 f25 f26 f27 f28 f29 f30 f31 f32 f33 f34 f35 f36 f37 f38 f39 f40 f41 f42 f43 f44 f45 f46 f47 f48 f49 f50 f51
            subst hE
            have x0 := (hBelow.cell (block_lt_of_cell G0.out)).trans G0.out
            have x1 := (hBelow.cell (block_lt_of_cell G1.out)).trans G1.out
            have HO3 := Lib.hid (own_grown' HO.out hBelow)
            have HF3 := Lib.hid (HF.out.same (S' := fun b => b < W.heap.size) (w' := W8) (fun _ h => h) (fun b h => hBelow.block b (Nat.lt_of_lt_of_le h HBR.out.size)))
            have HX3 := Lib.hid (HXX.out.below hBelow)
            have HX4 := Lib.hid (show AtS (fun b => b < W.heap.size) W8 (.string p) (.slice ax us.length cx) (p, us) from HX0.out.same (fun _ h => h) (fun b h => (HBR.out.trans (hBelow.mono HBR.out.size)).block b h))
            have HONE := Lib.hid (row2_one HXX.out)
            obtain ⟨i0, hi, hz0, hz1, hz2⟩ := info_parts' (show (Tryz.prog.info? 24).map (fun i => (i.zero, i.size, i.bytes)) = some (some (.agg #[.string ⟨#[]⟩, .slice none 0 0]), 2, 40) by kernel_rfl)
            have HB3 := Lib.hid (HBR.out.trans (hBelow.mono HBR.out.size))
            clear hBelow
            go_wp2_with (at_builtin; refine wpList_append_own_at _ rfl _ _ 26 rfl W.heap.size 24 i0 _ 2 40 Tryz.underlying26 hi hz0 hz1 hz2 rfl (by decide) (.slice va Q.length vc) Q.length xs rfl ?c0 _ 1 1 [.string p, .slice ax us.length cx] rfl rfl ?c1 ?c2 ?c3 ?c4 ?c5 ?_)
            case c0 => exact own_grown' HO3.out ((Below.refl _ _).alloc (Nat.le_refl _) _)
            case c1 =>
              intro jj u' hu'
              have hn := World.alloc_heap_new W8 (.cells #[.string p, .slice ax us.length cx] 24)
              rcases jj with _ | _ | jj
              · cases hu'; exact cells_at hn 0 _ rfl
              · cases hu'; exact cells_at hn 1 _ rfl
              · simp at hu'
            case c2 => exact HONE.out
            case c3 => have := HNL.out; unfold maxLen; omega
            case c4 => have := HNL.out; omega
            case c5 => have := HB3.out.size; simp; omega
            intro v' w' hown' hgrow _ hat
            have hbN : Below W8.heap.size W8 (W8.alloc (.cells #[.string p, .slice ax us.length cx] 24)) := (Below.refl _ _).alloc (Nat.le_refl _) _
            have hbW : Below W.heap.size W (W8.alloc (.cells #[.string p, .slice ax us.length cx] 24)) := HB3.out.trans (hbN.mono HB3.out.size)
            have hobl := own_block HO.out
            have hk : ∀ b, b < W.heap.size → w'.heap[b]? = W8.heap[b]? := fun b hb => by
              refine (hgrow.block b (Nat.lt_of_lt_of_le hb hbW.size) (fun e => ?_)).trans (hbN.block b (Nat.lt_of_lt_of_le hb HB3.out.size))
              have := (hobl b e.symm).1
              omega
            have HNW := Lib.hid (show LstO W.heap.size w' v' ((L.take (j + 1)).filter (withP (gs, gn) arg t)) from by
              rw [HFT.out, HE.out]
              simp only [if_true]
              exact ⟨xs ++ [.string p, .slice ax us.length cx], by simpa using hown', FlatA.snoc (HX4.out.same (fun _ h => h) hk) (HF3.out.same (fun _ h => h) hk)⟩)
            have HBZ := Lib.hid (show Below W.heap.size W w' from hbW.grown hgrow hbW.size (fun k e => (hobl k e).1))
            clear hown' hgrow hat hbN hbW hobl hk
            go_wp2
            go_roundw
            case rel => exact ⟨j + 1, by omega, by go_num, HNW.out, HBZ.out⟩
            case measure => simp [intOf]; omega
          · have hal : arg.toNat < us.length := by have := HARG.out; omega
            obtain ⟨an, han⟩ : ∃ an : Nat, arg = (an : Int) := ⟨arg.toNat, by omega⟩
            have hal2 : an < us.length := by omega
            have i3 : (0 : Int) ≤ (an : Int) := by omega
            have i4 : (an : Int) < (us.length : Int) := by omega
            obtain ⟨bx, off, rfl, hbx, hit⟩ := HXX.out.args (fun _ h => h) (by intro e; rw [show us = [] from e] at hal2; simp at hal2)
            obtain ⟨x0, x1, x2, x3, y0, y1, y2, y3, hix⟩ := hit.at an hal2
            have hws : withP (gs, gn) arg t (p, us) = sameB us[an] t := by
              unfold withP
              have e4 : arg.toNat = an := by omega
              simp only [e1, e2, e4, decide_true, Bool.true_and, decide_eq_false e3, Bool.false_or, List.getElem?_eq_getElem hal2, Option.map_some, Option.getD_some]
            have hst := sameTerm_any us[an] t _ _ _ _ _ _ _ _ wr hix HTR.out
            have HIX := Lib.hid hix
            have Y0 := Lib.hid y0
            have Y1 := Lib.hid y1
            have Y2 := Lib.hid y2
            have Y3 := Lib.hid y3
            obtain ⟨b, hbb⟩ : ∃ b, sameB us[an] t = b := ⟨_, rfl⟩
            rw [hbb] at hws
            have HBB := Lib.hid hbb
            have HE := Lib.hid hws
            have E2 := Lib.hid e2
            obtain ⟨u, hu⟩ : ∃ u, us[an] = u := ⟨_, rfl⟩
            rw [hu] at HIX HBB
            subst han
            clear hit hix hws hst y0 y1 y2 y3 e2 e3 hbb hu hal
            cases b with
            | false =>
              go_wp2_with fail
              have hst := @FL_grow [fV (.slice (some ⟨gl, 0, none⟩) L.length cl), fV (.int .i64 j), fV (.pointer (some ⟨gl, j * 2, none⟩)), fV (.pointer (some ⟨gl, j * 2, none⟩)), fV (.string p), fV (.pointer (some ⟨m, 0, none⟩)), fV (.string gs), fV (.bool true), fV (.bool true), fV (.slice (some ⟨gl, 0, none⟩) L.length cl), fV (.int .i64 j), fV (.pointer (some ⟨gl, j * 2, none⟩)), fV (.pointer (some ⟨gl, j * 2 + 1, none⟩)), fV (.slice (some ⟨bx, off, none⟩) us.length cx), fV (.int .i64 us.length), fV (.pointer (some ⟨m, 1, none⟩)), fV (.int .i64 gn), fV (.bool true), fV (.bool true), fV (.bool true), fV (.int .i64 an), fV (.bool false), fV (.bool false), fV (.slice (some ⟨gl, 0, none⟩) L.length cl), fV (.int .i64 j), fV (.pointer (some ⟨gl, j * 2, none⟩)), fV (.pointer (some ⟨gl, j * 2 + 1, none⟩)), fV (.slice (some ⟨bx, off, none⟩) us.length cx), fV (.int .i64 an), fV (.pointer (some ⟨bx, off + an * 4, none⟩)), fV (.agg #[x0, x1, x2, x3]), fV (.agg #[.int .u8 tk, .int .i64 tn, .string ts, .slice ta tu.length tc]), fV (.bool false), fV (.bool false), fV (.bool false)] (by
                intro F hF
                simp only [List.mem_cons, List.not_mem_nil, or_false] at hF
                rcases hF with rfl | rfl | rfl | rfl | rfl | rfl | rfl | rfl | rfl | rfl | rfl | rfl | rfl | rfl | rfl | rfl | rfl | rfl | rfl | rfl | rfl | rfl | rfl | rfl | rfl | rfl | rfl | rfl | rfl | rfl | rfl | rfl | rfl | rfl | rfl <;> first | exact fV_stays _)
              refine wp_region_grow_orB (by kernel_rfl) (FL [fV (.slice (some ⟨gl, 0, none⟩) L.length cl), fV (.int .i64 j), fV (.pointer (some ⟨gl, j * 2, none⟩)), fV (.pointer (some ⟨gl, j * 2, none⟩)), fV (.string p), fV (.pointer (some ⟨m, 0, none⟩)), fV (.string gs), fV (.bool true), fV (.bool true), fV (.slice (some ⟨gl, 0, none⟩) L.length cl), fV (.int .i64 j), fV (.pointer (some ⟨gl, j * 2, none⟩)), fV (.pointer (some ⟨gl, j * 2 + 1, none⟩)), fV (.slice (some ⟨bx, off, none⟩) us.length cx), fV (.int .i64 us.length), fV (.pointer (some ⟨m, 1, none⟩)), fV (.int .i64 gn), fV (.bool true), fV (.bool true), fV (.bool true), fV (.int .i64 an), fV (.bool false), fV (.bool false), fV (.slice (some ⟨gl, 0, none⟩) L.length cl), fV (.int .i64 j), fV (.pointer (some ⟨gl, j * 2, none⟩)), fV (.pointer (some ⟨gl, j * 2 + 1, none⟩)), fV (.slice (some ⟨bx, off, none⟩) us.length cx), fV (.int .i64 an), fV (.pointer (some ⟨bx, off + an * 4, none⟩)), fV (.agg #[x0, x1, x2, x3]), fV (.agg #[.int .u8 tk, .int .i64 tn, .string ts, .slice ta tu.length tc]), fV (.bool false), fV (.bool false), fV (.bool false)]) hst (by kernel_rfl) (steps_or ?_) ?_
              · refine ⟨?_, ?_, ?_, ?_, ?_, ?_, ?_, ?_, ?_, ?_, ?_, ?_, ?_, ?_, ?_, ?_, ?_, ?_, ?_, ?_, ?_, ?_, ?_, ?_, ?_, ?_, ?_, ?_, ?_, ?_, ?_, ?_, ?_, ?_, ?_, trivial⟩
                · intro a wx hb hd hs ho hp
                  refine Or.inl ⟨rfl, ?_⟩
                  have h0 : a.tmps.getD 0 undef = .slice (some ⟨gl, 0, none⟩) L.length cl := (ho 0 (by kernel_rfl)).trans rfl
                  unfold Oper.wp
                  go_simp
                  exact Stepped.at (v := .slice (some ⟨gl, 0, none⟩) L.length cl) (by first | rfl | simp) hd (Below.refl _ _) rfl
                · intro a wx hb hd hs ho hp
                  refine Or.inl ⟨rfl, ?_⟩
                  have h10 : a.tmps.getD 10 undef = .int .i64 j := (ho 10 (by kernel_rfl)).trans rfl
                  unfold Oper.wp
                  go_simp
                  exact Stepped.at (v := .int .i64 j) (by first | rfl | simp) hd (Below.refl _ _) rfl
                · intro a wx hb hd hs ho hp
                  refine Or.inl ⟨rfl, ?_⟩
                  have h17 : a.tmps.getD 17 undef = .slice (some ⟨gl, 0, none⟩) L.length cl := facts_at hp 0 17 (by kernel_rfl)
                  have h18 : a.tmps.getD 18 undef = .int .i64 j := facts_at hp 1 18 (by kernel_rfl)
                  unfold Oper.wp
                  go_simp
                  exact Stepped.at (v := .pointer (some ⟨gl, j * 2, none⟩)) (by first | rfl | simp) hd (Below.refl _ _) rfl
                · intro a wx hb hd hs ho hp
                  refine Or.inl ⟨rfl, ?_⟩
                  have h19 : a.tmps.getD 19 undef = .pointer (some ⟨gl, j * 2, none⟩) := facts_at hp 2 19 (by kernel_rfl)
                  unfold Oper.wp
                  go_simp
                  exact Stepped.at (v := .pointer (some ⟨gl, j * 2, none⟩)) (by first | rfl | simp) hd (Below.refl _ _) rfl
                · intro a wx hb hd hs ho hp
                  refine Or.inl ⟨rfl, ?_⟩
                  have h20 : a.tmps.getD 20 undef = .pointer (some ⟨gl, j * 2, none⟩) := facts_at hp 3 20 (by kernel_rfl)
                  have x0 := (hb.cell (block_lt_of_cell G0.out)).trans G0.out
                  unfold Oper.wp
                  go_simp
                  exact Stepped.at (v := .string p) (by first | rfl | simp) hd (Below.refl _ _) rfl
                · intro a wx hb hd hs ho hp
                  refine Or.inl ⟨rfl, ?_⟩
                  have h5 : a.tmps.getD 5 undef = .pointer (some ⟨m, 0, none⟩) := (ho 5 (by kernel_rfl)).trans rfl
                  unfold Oper.wp
                  go_simp
                  exact Stepped.at (v := .pointer (some ⟨m, 0, none⟩)) (by first | rfl | simp) hd (Below.refl _ _) rfl
                · intro a wx hb hd hs ho hp
                  refine Or.inl ⟨rfl, ?_⟩
                  have h22 : a.tmps.getD 22 undef = .pointer (some ⟨m, 0, none⟩) := facts_at hp 5 22 (by kernel_rfl)
                  have hx := (hb.block m (Array.getElem?_eq_some_iff.1 HR1.out).1).trans HR1.out
                  have x0 := cells_at hx 0 _ rfl
                  unfold Oper.wp
                  go_simp
                  exact Stepped.at (v := .string gs) (by first | rfl | simp) hd (Below.refl _ _) rfl
                · intro a wx hb hd hs ho hp
                  refine Or.inl ⟨rfl, ?_⟩
                  have h21 : a.tmps.getD 21 undef = .string p := facts_at hp 4 21 (by kernel_rfl)
                  have h23 : a.tmps.getD 23 undef = .string gs := facts_at hp 6 23 (by kernel_rfl)
                  unfold Oper.wp
                  go_simp
                  exact Stepped.at (v := .bool true) (by first | rfl | simp) hd (Below.refl _ _) rfl
                · intro a wx hb hd hs ho hp
                  refine Or.inl ⟨rfl, ?_⟩
                  have h24 : a.tmps.getD 24 undef = .bool true := facts_at hp 7 24 (by kernel_rfl)
                  unfold Oper.wp
                  go_simp
                  exact Stepped.at (v := .bool true) (by first | rfl | simp) hd (Below.refl _ _) rfl
                · intro a wx hb hd hs ho hp
                  refine Or.inl ⟨wanted_yes rfl (yielded_at (k := 8) (d := 25) (by kernel_rfl) (show a.tmps.getD 25 undef = _ from facts_at hp 8 25 (by kernel_rfl))), ?_⟩
                  have h0 : a.tmps.getD 0 undef = .slice (some ⟨gl, 0, none⟩) L.length cl := (ho 0 (by kernel_rfl)).trans rfl
                  unfold Oper.wp
                  go_simp
                  exact Stepped.at (v := .slice (some ⟨gl, 0, none⟩) L.length cl) (by first | rfl | simp) hd (Below.refl _ _) rfl
                · intro a wx hb hd hs ho hp
                  refine Or.inl ⟨wanted_yes rfl (yielded_at (k := 8) (d := 25) (by kernel_rfl) (show a.tmps.getD 25 undef = _ from facts_at hp 8 25 (by kernel_rfl))), ?_⟩
                  have h10 : a.tmps.getD 10 undef = .int .i64 j := (ho 10 (by kernel_rfl)).trans rfl
                  unfold Oper.wp
                  go_simp
                  exact Stepped.at (v := .int .i64 j) (by first | rfl | simp) hd (Below.refl _ _) rfl
                · intro a wx hb hd hs ho hp
                  refine Or.inl ⟨wanted_yes rfl (yielded_at (k := 8) (d := 25) (by kernel_rfl) (show a.tmps.getD 25 undef = _ from facts_at hp 8 25 (by kernel_rfl))), ?_⟩
                  have h26 : a.tmps.getD 26 undef = .slice (some ⟨gl, 0, none⟩) L.length cl := facts_at hp 9 26 (by kernel_rfl)
                  have h27 : a.tmps.getD 27 undef = .int .i64 j := facts_at hp 10 27 (by kernel_rfl)
                  unfold Oper.wp
                  go_simp
                  exact Stepped.at (v := .pointer (some ⟨gl, j * 2, none⟩)) (by first | rfl | simp) hd (Below.refl _ _) rfl
                · intro a wx hb hd hs ho hp
                  refine Or.inl ⟨wanted_yes rfl (yielded_at (k := 8) (d := 25) (by kernel_rfl) (show a.tmps.getD 25 undef = _ from facts_at hp 8 25 (by kernel_rfl))), ?_⟩
                  have h28 : a.tmps.getD 28 undef = .pointer (some ⟨gl, j * 2, none⟩) := facts_at hp 11 28 (by kernel_rfl)
                  unfold Oper.wp
                  go_simp
                  exact Stepped.at (v := .pointer (some ⟨gl, j * 2 + 1, none⟩)) (by first | rfl | simp) hd (Below.refl _ _) rfl
                · intro a wx hb hd hs ho hp
                  refine Or.inl ⟨wanted_yes rfl (yielded_at (k := 8) (d := 25) (by kernel_rfl) (show a.tmps.getD 25 undef = _ from facts_at hp 8 25 (by kernel_rfl))), ?_⟩
                  have h29 : a.tmps.getD 29 undef = .pointer (some ⟨gl, j * 2 + 1, none⟩) := facts_at hp 12 29 (by kernel_rfl)
                  have x0 := (hb.cell (block_lt_of_cell G1.out)).trans G1.out
                  unfold Oper.wp
                  go_simp
                  exact Stepped.at (v := .slice (some ⟨bx, off, none⟩) us.length cx) (by first | rfl | simp) hd (Below.refl _ _) rfl
                · intro a wx hb hd hs ho hp
                  refine Or.inl ⟨wanted_yes rfl (yielded_at (k := 8) (d := 25) (by kernel_rfl) (show a.tmps.getD 25 undef = _ from facts_at hp 8 25 (by kernel_rfl))), ?_⟩
                  have h30 : a.tmps.getD 30 undef = .slice (some ⟨bx, off, none⟩) us.length cx := facts_at hp 13 30 (by kernel_rfl)
                  unfold Oper.wp
                  go_simp
                  exact Stepped.at (v := .int .i64 us.length) (by first | rfl | simp) hd (Below.refl _ _) rfl
                · intro a wx hb hd hs ho hp
                  refine Or.inl ⟨wanted_yes rfl (yielded_at (k := 8) (d := 25) (by kernel_rfl) (show a.tmps.getD 25 undef = _ from facts_at hp 8 25 (by kernel_rfl))), ?_⟩
                  have h5 : a.tmps.getD 5 undef = .pointer (some ⟨m, 0, none⟩) := (ho 5 (by kernel_rfl)).trans rfl
                  unfold Oper.wp
                  go_simp
                  exact Stepped.at (v := .pointer (some ⟨m, 1, none⟩)) (by first | rfl | simp) hd (Below.refl _ _) rfl
                · intro a wx hb hd hs ho hp
                  refine Or.inl ⟨wanted_yes rfl (yielded_at (k := 8) (d := 25) (by kernel_rfl) (show a.tmps.getD 25 undef = _ from facts_at hp 8 25 (by kernel_rfl))), ?_⟩
                  have h32 : a.tmps.getD 32 undef = .pointer (some ⟨m, 1, none⟩) := facts_at hp 15 32 (by kernel_rfl)
                  have hx := (hb.block m (Array.getElem?_eq_some_iff.1 HR1.out).1).trans HR1.out
                  have x1 := cells_at hx 1 _ rfl
                  unfold Oper.wp
                  go_simp
                  exact Stepped.at (v := .int .i64 gn) (by first | rfl | simp) hd (Below.refl _ _) rfl
                · intro a wx hb hd hs ho hp
                  refine Or.inl ⟨wanted_yes rfl (yielded_at (k := 8) (d := 25) (by kernel_rfl) (show a.tmps.getD 25 undef = _ from facts_at hp 8 25 (by kernel_rfl))), ?_⟩
                  have h31 : a.tmps.getD 31 undef = .int .i64 us.length := facts_at hp 14 31 (by kernel_rfl)
                  have h33 : a.tmps.getD 33 undef = .int .i64 gn := facts_at hp 16 33 (by kernel_rfl)
                  unfold Oper.wp
                  go_simp
                  exact Stepped.at (v := .bool true) (by first | rfl | simp) hd (Below.refl _ _) rfl
                · intro a wx hb hd hs ho hp
                  refine Or.inl ⟨rfl, ?_⟩
                  have h25 : a.tmps.getD 25 undef = .bool true := facts_at hp 8 25 (by kernel_rfl)
                  have h34 : a.tmps.getD 34 undef = .bool true := facts_at hp 17 34 (by kernel_rfl)
                  unfold Oper.wp
                  go_simp
                  exact Stepped.at (v := .bool true) (by first | rfl | simp) hd (Below.refl _ _) rfl
                · intro a wx hb hd hs ho hp
                  refine Or.inl ⟨rfl, ?_⟩
                  have h35 : a.tmps.getD 35 undef = .bool true := facts_at hp 18 35 (by kernel_rfl)
                  unfold Oper.wp
                  go_simp
                  exact Stepped.at (v := .bool true) (by first | rfl | simp) hd (Below.refl _ _) rfl
                · intro a wx hb hd hs ho hp
                  refine Or.inl ⟨wanted_yes rfl (yielded_at (k := 19) (d := 36) (by kernel_rfl) (show a.tmps.getD 36 undef = _ from facts_at hp 19 36 (by kernel_rfl))), ?_⟩
                  have h2 : a.tmps.getD 2 undef = .int .i64 an := (ho 2 (by kernel_rfl)).trans rfl
                  unfold Oper.wp
                  go_simp
                  exact Stepped.at (v := .int .i64 an) (by first | rfl | simp) hd (Below.refl _ _) rfl
                · intro a wx hb hd hs ho hp
                  refine Or.inl ⟨wanted_yes rfl (yielded_at (k := 19) (d := 36) (by kernel_rfl) (show a.tmps.getD 36 undef = _ from facts_at hp 19 36 (by kernel_rfl))), ?_⟩
                  have h37 : a.tmps.getD 37 undef = .int .i64 an := facts_at hp 20 37 (by kernel_rfl)
                  unfold Oper.wp
                  go_simp
                  exact Stepped.at (v := .bool false) (by first | rfl | simp) hd (Below.refl _ _) rfl
                · intro a wx hb hd hs ho hp
                  refine Or.inl ⟨wanted_yes rfl (yielded_at (k := 19) (d := 36) (by kernel_rfl) (show a.tmps.getD 36 undef = _ from facts_at hp 19 36 (by kernel_rfl))), ?_⟩
                  have h38 : a.tmps.getD 38 undef = .bool false := facts_at hp 21 38 (by kernel_rfl)
                  unfold Oper.wp
                  go_simp
                  exact Stepped.at (v := .bool false) (by first | rfl | simp) hd (Below.refl _ _) rfl
                · intro a wx hb hd hs ho hp
                  refine Or.inl ⟨wanted_yes rfl (yielded_at (k := 22) (d := 39) (by kernel_rfl) (show a.tmps.getD 39 undef = _ from facts_at hp 22 39 (by kernel_rfl))), ?_⟩
                  have h0 : a.tmps.getD 0 undef = .slice (some ⟨gl, 0, none⟩) L.length cl := (ho 0 (by kernel_rfl)).trans rfl
                  unfold Oper.wp
                  go_simp
                  exact Stepped.at (v := .slice (some ⟨gl, 0, none⟩) L.length cl) (by first | rfl | simp) hd (Below.refl _ _) rfl
                · intro a wx hb hd hs ho hp
                  refine Or.inl ⟨wanted_yes rfl (yielded_at (k := 22) (d := 39) (by kernel_rfl) (show a.tmps.getD 39 undef = _ from facts_at hp 22 39 (by kernel_rfl))), ?_⟩
                  have h10 : a.tmps.getD 10 undef = .int .i64 j := (ho 10 (by kernel_rfl)).trans rfl
                  unfold Oper.wp
                  go_simp
                  exact Stepped.at (v := .int .i64 j) (by first | rfl | simp) hd (Below.refl _ _) rfl
                · intro a wx hb hd hs ho hp
                  refine Or.inl ⟨wanted_yes rfl (yielded_at (k := 22) (d := 39) (by kernel_rfl) (show a.tmps.getD 39 undef = _ from facts_at hp 22 39 (by kernel_rfl))), ?_⟩
                  have h40 : a.tmps.getD 40 undef = .slice (some ⟨gl, 0, none⟩) L.length cl := facts_at hp 23 40 (by kernel_rfl)
                  have h41 : a.tmps.getD 41 undef = .int .i64 j := facts_at hp 24 41 (by kernel_rfl)
                  unfold Oper.wp
                  go_simp
                  exact Stepped.at (v := .pointer (some ⟨gl, j * 2, none⟩)) (by first | rfl | simp) hd (Below.refl _ _) rfl
                · intro a wx hb hd hs ho hp
                  refine Or.inl ⟨wanted_yes rfl (yielded_at (k := 22) (d := 39) (by kernel_rfl) (show a.tmps.getD 39 undef = _ from facts_at hp 22 39 (by kernel_rfl))), ?_⟩
                  have h42 : a.tmps.getD 42 undef = .pointer (some ⟨gl, j * 2, none⟩) := facts_at hp 25 42 (by kernel_rfl)
                  unfold Oper.wp
                  go_simp
                  exact Stepped.at (v := .pointer (some ⟨gl, j * 2 + 1, none⟩)) (by first | rfl | simp) hd (Below.refl _ _) rfl
                · intro a wx hb hd hs ho hp
                  refine Or.inl ⟨wanted_yes rfl (yielded_at (k := 22) (d := 39) (by kernel_rfl) (show a.tmps.getD 39 undef = _ from facts_at hp 22 39 (by kernel_rfl))), ?_⟩
                  have h43 : a.tmps.getD 43 undef = .pointer (some ⟨gl, j * 2 + 1, none⟩) := facts_at hp 26 43 (by kernel_rfl)
                  have x0 := (hb.cell (block_lt_of_cell G1.out)).trans G1.out
                  unfold Oper.wp
                  go_simp
                  exact Stepped.at (v := .slice (some ⟨bx, off, none⟩) us.length cx) (by first | rfl | simp) hd (Below.refl _ _) rfl
                · intro a wx hb hd hs ho hp
                  refine Or.inl ⟨wanted_yes rfl (yielded_at (k := 22) (d := 39) (by kernel_rfl) (show a.tmps.getD 39 undef = _ from facts_at hp 22 39 (by kernel_rfl))), ?_⟩
                  have h2 : a.tmps.getD 2 undef = .int .i64 an := (ho 2 (by kernel_rfl)).trans rfl
                  unfold Oper.wp
                  go_simp
                  exact Stepped.at (v := .int .i64 an) (by first | rfl | simp) hd (Below.refl _ _) rfl
                · intro a wx hb hd hs ho hp
                  refine Or.inl ⟨wanted_yes rfl (yielded_at (k := 22) (d := 39) (by kernel_rfl) (show a.tmps.getD 39 undef = _ from facts_at hp 22 39 (by kernel_rfl))), ?_⟩
                  have h44 : a.tmps.getD 44 undef = .slice (some ⟨bx, off, none⟩) us.length cx := facts_at hp 27 44 (by kernel_rfl)
                  have h45 : a.tmps.getD 45 undef = .int .i64 an := facts_at hp 28 45 (by kernel_rfl)
                  unfold Oper.wp
                  go_simp
                  exact Stepped.at (v := .pointer (some ⟨bx, off + an * 4, none⟩)) (by first | rfl | simp) hd (Below.refl _ _) rfl
                · intro a wx hb hd hs ho hp
                  refine Or.inl ⟨wanted_yes rfl (yielded_at (k := 22) (d := 39) (by kernel_rfl) (show a.tmps.getD 39 undef = _ from facts_at hp 22 39 (by kernel_rfl))), ?_⟩
                  have h46 : a.tmps.getD 46 undef = .pointer (some ⟨bx, off + an * 4, none⟩) := facts_at hp 29 46 (by kernel_rfl)
                  have s46 := qslot_of (hs.trans (rfl : _ = 60)) (by decide) h46
                  have z0 := (hb.cell (block_lt_of_cell Y0.out)).trans Y0.out
                  have z1 := (hb.cell (block_lt_of_cell Y1.out)).trans Y1.out
                  have z2 := (hb.cell (block_lt_of_cell Y2.out)).trans Y2.out
                  have z3 := (hb.cell (block_lt_of_cell Y3.out)).trans Y3.out
                  unfold Oper.wp
                  go_simp
                  exact Stepped.at (v := .agg #[x0, x1, x2, x3]) (by first | rfl | simp) hd (Below.refl _ _) rfl
                · intro a wx hb hd hs ho hp
                  refine Or.inl ⟨wanted_yes rfl (yielded_at (k := 22) (d := 39) (by kernel_rfl) (show a.tmps.getD 39 undef = _ from facts_at hp 22 39 (by kernel_rfl))), ?_⟩
                  have h7 : a.tmps.getD 7 undef = .pointer (some ⟨m + 1, 0, none⟩) := (ho 7 (by kernel_rfl)).trans rfl
                  have hx := (hb.block (m + 1) (Array.getElem?_eq_some_iff.1 HR2.out).1).trans HR2.out
                  have s7 := qslot_of (hs.trans (rfl : _ = 60)) (by decide) h7
                  have x0 := cells_at hx 0 _ rfl
                  have x1 := cells_at hx 1 _ rfl
                  have x2 := cells_at hx 2 _ rfl
                  have x3 := cells_at hx 3 _ rfl
                  unfold Oper.wp
                  go_simp
                  exact Stepped.at (v := .agg #[.int .u8 tk, .int .i64 tn, .string ts, .slice ta tu.length tc]) (by first | rfl | simp) hd (Below.refl _ _) rfl
                · intro a wx hb hd hs ho hp
                  refine Or.inl ⟨wanted_yes rfl (yielded_at (k := 22) (d := 39) (by kernel_rfl) (show a.tmps.getD 39 undef = _ from facts_at hp 22 39 (by kernel_rfl))), ?_⟩
                  have h47 : a.tmps.getD 47 undef = .agg #[x0, x1, x2, x3] := facts_at hp 30 47 (by kernel_rfl)
                  have h48 : a.tmps.getD 48 undef = .agg #[.int .u8 tk, .int .i64 tn, .string ts, .slice ta tu.length tc] := facts_at hp 31 48 (by kernel_rfl)
                  have hx := sameTerm_any u t _ _ _ _ _ _ _ _ wx ((HIX.out.below hb).mono hb.size) ((HTR.out.below hb).mono hb.size)
                  rw [HBB.out] at hx
                  unfold Oper.wp
                  go_simp
                  refine (hx).mono ?_
                  rintro e w9 ⟨rfl, hb9⟩
                  exact Stepped.at (v := .bool false) rfl hd (hb9) rfl
                · intro a wx hb hd hs ho hp
                  refine Or.inl ⟨wanted_yes rfl (yielded_at (k := 19) (d := 36) (by kernel_rfl) (show a.tmps.getD 36 undef = _ from facts_at hp 19 36 (by kernel_rfl))), ?_⟩
                  have h39 : a.tmps.getD 39 undef = .bool false := facts_at hp 22 39 (by kernel_rfl)
                  have h49 : a.tmps.getD 49 undef = .bool false := facts_at hp 32 49 (by kernel_rfl)
                  unfold Oper.wp
                  go_simp
                  exact Stepped.at (v := .bool false) (by first | rfl | simp) hd (Below.refl _ _) rfl
                · intro a wx hb hd hs ho hp
                  refine Or.inl ⟨rfl, ?_⟩
                  have h36 : a.tmps.getD 36 undef = .bool true := facts_at hp 19 36 (by kernel_rfl)
                  have h50 : a.tmps.getD 50 undef = .bool false := facts_at hp 33 50 (by kernel_rfl)
                  unfold Oper.wp
                  go_simp
                  exact Stepped.at (v := .bool false) (by first | rfl | simp) hd (Below.refl _ _) rfl
              intro ac W8 hJ
              obtain ⟨u17, f17⟩ : ∃ u, ac.tmps.getD 17 undef = u := ⟨_, rfl⟩
              obtain ⟨u18, f18⟩ : ∃ u, ac.tmps.getD 18 undef = u := ⟨_, rfl⟩
              obtain ⟨u19, f19⟩ : ∃ u, ac.tmps.getD 19 undef = u := ⟨_, rfl⟩
              obtain ⟨u20, f20⟩ : ∃ u, ac.tmps.getD 20 undef = u := ⟨_, rfl⟩
              obtain ⟨u21, f21⟩ : ∃ u, ac.tmps.getD 21 undef = u := ⟨_, rfl⟩
              obtain ⟨u22, f22⟩ : ∃ u, ac.tmps.getD 22 undef = u := ⟨_, rfl⟩
              obtain ⟨u23, f23⟩ : ∃ u, ac.tmps.getD 23 undef = u := ⟨_, rfl⟩
              obtain ⟨u24, f24⟩ : ∃ u, ac.tmps.getD 24 undef = u := ⟨_, rfl⟩
              obtain ⟨u25, f25⟩ : ∃ u, ac.tmps.getD 25 undef = u := ⟨_, rfl⟩
              obtain ⟨u26, f26⟩ : ∃ u, ac.tmps.getD 26 undef = u := ⟨_, rfl⟩
              obtain ⟨u27, f27⟩ : ∃ u, ac.tmps.getD 27 undef = u := ⟨_, rfl⟩
              obtain ⟨u28, f28⟩ : ∃ u, ac.tmps.getD 28 undef = u := ⟨_, rfl⟩
              obtain ⟨u29, f29⟩ : ∃ u, ac.tmps.getD 29 undef = u := ⟨_, rfl⟩
              obtain ⟨u30, f30⟩ : ∃ u, ac.tmps.getD 30 undef = u := ⟨_, rfl⟩
              obtain ⟨u31, f31⟩ : ∃ u, ac.tmps.getD 31 undef = u := ⟨_, rfl⟩
              obtain ⟨u32, f32⟩ : ∃ u, ac.tmps.getD 32 undef = u := ⟨_, rfl⟩
              obtain ⟨u33, f33⟩ : ∃ u, ac.tmps.getD 33 undef = u := ⟨_, rfl⟩
              obtain ⟨u34, f34⟩ : ∃ u, ac.tmps.getD 34 undef = u := ⟨_, rfl⟩
              obtain ⟨u35, f35⟩ : ∃ u, ac.tmps.getD 35 undef = u := ⟨_, rfl⟩
              obtain ⟨u36, f36⟩ : ∃ u, ac.tmps.getD 36 undef = u := ⟨_, rfl⟩
              obtain ⟨u37, f37⟩ : ∃ u, ac.tmps.getD 37 undef = u := ⟨_, rfl⟩
              obtain ⟨u38, f38⟩ : ∃ u, ac.tmps.getD 38 undef = u := ⟨_, rfl⟩
              obtain ⟨u39, f39⟩ : ∃ u, ac.tmps.getD 39 undef = u := ⟨_, rfl⟩
              obtain ⟨u40, f40⟩ : ∃ u, ac.tmps.getD 40 undef = u := ⟨_, rfl⟩
              obtain ⟨u41, f41⟩ : ∃ u, ac.tmps.getD 41 undef = u := ⟨_, rfl⟩
              obtain ⟨u42, f42⟩ : ∃ u, ac.tmps.getD 42 undef = u := ⟨_, rfl⟩
              obtain ⟨u43, f43⟩ : ∃ u, ac.tmps.getD 43 undef = u := ⟨_, rfl⟩
              obtain ⟨u44, f44⟩ : ∃ u, ac.tmps.getD 44 undef = u := ⟨_, rfl⟩
              obtain ⟨u45, f45⟩ : ∃ u, ac.tmps.getD 45 undef = u := ⟨_, rfl⟩
              obtain ⟨u46, f46⟩ : ∃ u, ac.tmps.getD 46 undef = u := ⟨_, rfl⟩
              obtain ⟨u47, f47⟩ : ∃ u, ac.tmps.getD 47 undef = u := ⟨_, rfl⟩
              obtain ⟨u48, f48⟩ : ∃ u, ac.tmps.getD 48 undef = u := ⟨_, rfl⟩
              obtain ⟨u49, f49⟩ : ∃ u, ac.tmps.getD 49 undef = u := ⟨_, rfl⟩
              obtain ⟨u50, f50⟩ : ∃ u, ac.tmps.getD 50 undef = u := ⟨_, rfl⟩
              have f51 : ac.tmps.getD 51 undef = .bool false := hJ.at_end 34 51 (by kernel_rfl)
              have hBelow := hJ.below
              obtain ⟨TT, DD⟩ := ac
              obtain rfl : DD = [] := hJ.defers
              have hE := slots_merge [false, false, false, false, false, false, false, false, false, false, false, false, false, false, false, false, false, true, true, true, true, true, true, true, true, true, true, true, true, true, true, true, true, true, true, true, true, true, true, true, true, true, true, true, true, true, true, true, true, true, true, true, false, false, false, false, false, false, false, false] 60 hJ.tmps rfl (by kernel_rfl) hJ.outer
              simp only [mergeFrom, Nat.zero_add, Nat.reduceAdd, f17, f18, f19, f20, f21, f22, f23, f24, f25, f26, f27, f28, f29, f30, f31, f32, f33, f34, f35, f36, f37, f38, f39, f40, f41, f42, f43, f44, f45, f46, f47, f48, f49, f50, f51] at hE
              clear hst hJ f17 f18 f19 f20 f21 f22 f23 f24 f25 f26 f27 f28 f29 f30 f31 f32 f33 f34 f35 f36 f37 f38 f39 f40 f41 f42 f43 f44 f45 f46 f47 f48 f49 f50 f51
              subst hE
              have HBZ := Lib.hid (HBR.out.trans (hBelow.mono HBR.out.size))
              have HNW := Lib.hid (show LstO W.heap.size W8 (.slice va Q.length vc) ((L.take (j + 1)).filter (withP (gs, gn) an t)) from by
                rw [HFT.out, HE.out]
                simp only [Bool.false_eq_true, if_false, List.append_nil]
                exact ⟨xs, own_grown' HO.out hBelow, HF.out.same (fun _ h => h) (fun b h => hBelow.block b (Nat.lt_of_lt_of_le h HBR.out.size))⟩)
              clear hBelow
              go_wp2
              go_roundw
              case rel => exact ⟨j + 1, by omega, by go_num, HNW.out, HBZ.out⟩
              case measure => simp [intOf]; omega
            | true =>
              go_wp2_with fail
              have hst := @FL_grow [fV (.slice (some ⟨gl, 0, none⟩) L.length cl), fV (.int .i64 j), fV (.pointer (some ⟨gl, j * 2, none⟩)), fV (.pointer (some ⟨gl, j * 2, none⟩)), fV (.string p), fV (.pointer (some ⟨m, 0, none⟩)), fV (.string gs), fV (.bool true), fV (.bool true), fV (.slice (some ⟨gl, 0, none⟩) L.length cl), fV (.int .i64 j), fV (.pointer (some ⟨gl, j * 2, none⟩)), fV (.pointer (some ⟨gl, j * 2 + 1, none⟩)), fV (.slice (some ⟨bx, off, none⟩) us.length cx), fV (.int .i64 us.length), fV (.pointer (some ⟨m, 1, none⟩)), fV (.int .i64 gn), fV (.bool true), fV (.bool true), fV (.bool true), fV (.int .i64 an), fV (.bool false), fV (.bool false), fV (.slice (some ⟨gl, 0, none⟩) L.length cl), fV (.int .i64 j), fV (.pointer (some ⟨gl, j * 2, none⟩)), fV (.pointer (some ⟨gl, j * 2 + 1, none⟩)), fV (.slice (some ⟨bx, off, none⟩) us.length cx), fV (.int .i64 an), fV (.pointer (some ⟨bx, off + an * 4, none⟩)), fV (.agg #[x0, x1, x2, x3]), fV (.agg #[.int .u8 tk, .int .i64 tn, .string ts, .slice ta tu.length tc]), fV (.bool true), fV (.bool true), fV (.bool true)] (by
                intro F hF
                simp only [List.mem_cons, List.not_mem_nil, or_false] at hF
                rcases hF with rfl | rfl | rfl | rfl | rfl | rfl | rfl | rfl | rfl | rfl | rfl | rfl | rfl | rfl | rfl | rfl | rfl | rfl | rfl | rfl | rfl | rfl | rfl | rfl | rfl | rfl | rfl | rfl | rfl | rfl | rfl | rfl | rfl | rfl | rfl <;> first | exact fV_stays _)
              refine wp_region_grow_orB (by kernel_rfl) (FL [fV (.slice (some ⟨gl, 0, none⟩) L.length cl), fV (.int .i64 j), fV (.pointer (some ⟨gl, j * 2, none⟩)), fV (.pointer (some ⟨gl, j * 2, none⟩)), fV (.string p), fV (.pointer (some ⟨m, 0, none⟩)), fV (.string gs), fV (.bool true), fV (.bool true), fV (.slice (some ⟨gl, 0, none⟩) L.length cl), fV (.int .i64 j), fV (.pointer (some ⟨gl, j * 2, none⟩)), fV (.pointer (some ⟨gl, j * 2 + 1, none⟩)), fV (.slice (some ⟨bx, off, none⟩) us.length cx), fV (.int .i64 us.length), fV (.pointer (some ⟨m, 1, none⟩)), fV (.int .i64 gn), fV (.bool true), fV (.bool true), fV (.bool true), fV (.int .i64 an), fV (.bool false), fV (.bool false), fV (.slice (some ⟨gl, 0, none⟩) L.length cl), fV (.int .i64 j), fV (.pointer (some ⟨gl, j * 2, none⟩)), fV (.pointer (some ⟨gl, j * 2 + 1, none⟩)), fV (.slice (some ⟨bx, off, none⟩) us.length cx), fV (.int .i64 an), fV (.pointer (some ⟨bx, off + an * 4, none⟩)), fV (.agg #[x0, x1, x2, x3]), fV (.agg #[.int .u8 tk, .int .i64 tn, .string ts, .slice ta tu.length tc]), fV (.bool true), fV (.bool true), fV (.bool true)]) hst (by kernel_rfl) (steps_or ?_) ?_
              · refine ⟨?_, ?_, ?_, ?_, ?_, ?_, ?_, ?_, ?_, ?_, ?_, ?_, ?_, ?_, ?_, ?_, ?_, ?_, ?_, ?_, ?_, ?_, ?_, ?_, ?_, ?_, ?_, ?_, ?_, ?_, ?_, ?_, ?_, ?_, ?_, trivial⟩
                · intro a wx hb hd hs ho hp
                  refine Or.inl ⟨rfl, ?_⟩
                  have h0 : a.tmps.getD 0 undef = .slice (some ⟨gl, 0, none⟩) L.length cl := (ho 0 (by kernel_rfl)).trans rfl
                  unfold Oper.wp
                  go_simp
                  exact Stepped.at (v := .slice (some ⟨gl, 0, none⟩) L.length cl) (by first | rfl | simp) hd (Below.refl _ _) rfl
                · intro a wx hb hd hs ho hp
                  refine Or.inl ⟨rfl, ?_⟩
                  have h10 : a.tmps.getD 10 undef = .int .i64 j := (ho 10 (by kernel_rfl)).trans rfl
                  unfold Oper.wp
                  go_simp
                  exact Stepped.at (v := .int .i64 j) (by first | rfl | simp) hd (Below.refl _ _) rfl
                · intro a wx hb hd hs ho hp
                  refine Or.inl ⟨rfl, ?_⟩
                  have h17 : a.tmps.getD 17 undef = .slice (some ⟨gl, 0, none⟩) L.length cl := facts_at hp 0 17 (by kernel_rfl)
                  have h18 : a.tmps.getD 18 undef = .int .i64 j := facts_at hp 1 18 (by kernel_rfl)
                  unfold Oper.wp
                  go_simp
                  exact Stepped.at (v := .pointer (some ⟨gl, j * 2, none⟩)) (by first | rfl | simp) hd (Below.refl _ _) rfl
                · intro a wx hb hd hs ho hp
                  refine Or.inl ⟨rfl, ?_⟩
                  have h19 : a.tmps.getD 19 undef = .pointer (some ⟨gl, j * 2, none⟩) := facts_at hp 2 19 (by kernel_rfl)
                  unfold Oper.wp
                  go_simp
                  exact Stepped.at (v := .pointer (some ⟨gl, j * 2, none⟩)) (by first | rfl | simp) hd (Below.refl _ _) rfl
                · intro a wx hb hd hs ho hp
                  refine Or.inl ⟨rfl, ?_⟩
                  have h20 : a.tmps.getD 20 undef = .pointer (some ⟨gl, j * 2, none⟩) := facts_at hp 3 20 (by kernel_rfl)
                  have x0 := (hb.cell (block_lt_of_cell G0.out)).trans G0.out
                  unfold Oper.wp
                  go_simp
                  exact Stepped.at (v := .string p) (by first | rfl | simp) hd (Below.refl _ _) rfl
                · intro a wx hb hd hs ho hp
                  refine Or.inl ⟨rfl, ?_⟩
                  have h5 : a.tmps.getD 5 undef = .pointer (some ⟨m, 0, none⟩) := (ho 5 (by kernel_rfl)).trans rfl
                  unfold Oper.wp
                  go_simp
                  exact Stepped.at (v := .pointer (some ⟨m, 0, none⟩)) (by first | rfl | simp) hd (Below.refl _ _) rfl
                · intro a wx hb hd hs ho hp
                  refine Or.inl ⟨rfl, ?_⟩
                  have h22 : a.tmps.getD 22 undef = .pointer (some ⟨m, 0, none⟩) := facts_at hp 5 22 (by kernel_rfl)
                  have hx := (hb.block m (Array.getElem?_eq_some_iff.1 HR1.out).1).trans HR1.out
                  have x0 := cells_at hx 0 _ rfl
                  unfold Oper.wp
                  go_simp
                  exact Stepped.at (v := .string gs) (by first | rfl | simp) hd (Below.refl _ _) rfl
                · intro a wx hb hd hs ho hp
                  refine Or.inl ⟨rfl, ?_⟩
                  have h21 : a.tmps.getD 21 undef = .string p := facts_at hp 4 21 (by kernel_rfl)
                  have h23 : a.tmps.getD 23 undef = .string gs := facts_at hp 6 23 (by kernel_rfl)
                  unfold Oper.wp
                  go_simp
                  exact Stepped.at (v := .bool true) (by first | rfl | simp) hd (Below.refl _ _) rfl
                · intro a wx hb hd hs ho hp
                  refine Or.inl ⟨rfl, ?_⟩
                  have h24 : a.tmps.getD 24 undef = .bool true := facts_at hp 7 24 (by kernel_rfl)
                  unfold Oper.wp
                  go_simp
                  exact Stepped.at (v := .bool true) (by first | rfl | simp) hd (Below.refl _ _) rfl
                · intro a wx hb hd hs ho hp
                  refine Or.inl ⟨wanted_yes rfl (yielded_at (k := 8) (d := 25) (by kernel_rfl) (show a.tmps.getD 25 undef = _ from facts_at hp 8 25 (by kernel_rfl))), ?_⟩
                  have h0 : a.tmps.getD 0 undef = .slice (some ⟨gl, 0, none⟩) L.length cl := (ho 0 (by kernel_rfl)).trans rfl
                  unfold Oper.wp
                  go_simp
                  exact Stepped.at (v := .slice (some ⟨gl, 0, none⟩) L.length cl) (by first | rfl | simp) hd (Below.refl _ _) rfl
                · intro a wx hb hd hs ho hp
                  refine Or.inl ⟨wanted_yes rfl (yielded_at (k := 8) (d := 25) (by kernel_rfl) (show a.tmps.getD 25 undef = _ from facts_at hp 8 25 (by kernel_rfl))), ?_⟩
                  have h10 : a.tmps.getD 10 undef = .int .i64 j := (ho 10 (by kernel_rfl)).trans rfl
                  unfold Oper.wp
                  go_simp
                  exact Stepped.at (v := .int .i64 j) (by first | rfl | simp) hd (Below.refl _ _) rfl
                · intro a wx hb hd hs ho hp
                  refine Or.inl ⟨wanted_yes rfl (yielded_at (k := 8) (d := 25) (by kernel_rfl) (show a.tmps.getD 25 undef = _ from facts_at hp 8 25 (by kernel_rfl))), ?_⟩
                  have h26 : a.tmps.getD 26 undef = .slice (some ⟨gl, 0, none⟩) L.length cl := facts_at hp 9 26 (by kernel_rfl)
                  have h27 : a.tmps.getD 27 undef = .int .i64 j := facts_at hp 10 27 (by kernel_rfl)
                  unfold Oper.wp
                  go_simp
                  exact Stepped.at (v := .pointer (some ⟨gl, j * 2, none⟩)) (by first | rfl | simp) hd (Below.refl _ _) rfl
                · intro a wx hb hd hs ho hp
                  refine Or.inl ⟨wanted_yes rfl (yielded_at (k := 8) (d := 25) (by kernel_rfl) (show a.tmps.getD 25 undef = _ from facts_at hp 8 25 (by kernel_rfl))), ?_⟩
                  have h28 : a.tmps.getD 28 undef = .pointer (some ⟨gl, j * 2, none⟩) := facts_at hp 11 28 (by kernel_rfl)
                  unfold Oper.wp
                  go_simp
                  exact Stepped.at (v := .pointer (some ⟨gl, j * 2 + 1, none⟩)) (by first | rfl | simp) hd (Below.refl _ _) rfl
                · intro a wx hb hd hs ho hp
                  refine Or.inl ⟨wanted_yes rfl (yielded_at (k := 8) (d := 25) (by kernel_rfl) (show a.tmps.getD 25 undef = _ from facts_at hp 8 25 (by kernel_rfl))), ?_⟩
                  have h29 : a.tmps.getD 29 undef = .pointer (some ⟨gl, j * 2 + 1, none⟩) := facts_at hp 12 29 (by kernel_rfl)
                  have x0 := (hb.cell (block_lt_of_cell G1.out)).trans G1.out
                  unfold Oper.wp
                  go_simp
                  exact Stepped.at (v := .slice (some ⟨bx, off, none⟩) us.length cx) (by first | rfl | simp) hd (Below.refl _ _) rfl
                · intro a wx hb hd hs ho hp
                  refine Or.inl ⟨wanted_yes rfl (yielded_at (k := 8) (d := 25) (by kernel_rfl) (show a.tmps.getD 25 undef = _ from facts_at hp 8 25 (by kernel_rfl))), ?_⟩
                  have h30 : a.tmps.getD 30 undef = .slice (some ⟨bx, off, none⟩) us.length cx := facts_at hp 13 30 (by kernel_rfl)
                  unfold Oper.wp
                  go_simp
                  exact Stepped.at (v := .int .i64 us.length) (by first | rfl | simp) hd (Below.refl _ _) rfl
                · intro a wx hb hd hs ho hp
                  refine Or.inl ⟨wanted_yes rfl (yielded_at (k := 8) (d := 25) (by kernel_rfl) (show a.tmps.getD 25 undef = _ from facts_at hp 8 25 (by kernel_rfl))), ?_⟩
                  have h5 : a.tmps.getD 5 undef = .pointer (some ⟨m, 0, none⟩) := (ho 5 (by kernel_rfl)).trans rfl
                  unfold Oper.wp
                  go_simp
                  exact Stepped.at (v := .pointer (some ⟨m, 1, none⟩)) (by first | rfl | simp) hd (Below.refl _ _) rfl
                · intro a wx hb hd hs ho hp
                  refine Or.inl ⟨wanted_yes rfl (yielded_at (k := 8) (d := 25) (by kernel_rfl) (show a.tmps.getD 25 undef = _ from facts_at hp 8 25 (by kernel_rfl))), ?_⟩
                  have h32 : a.tmps.getD 32 undef = .pointer (some ⟨m, 1, none⟩) := facts_at hp 15 32 (by kernel_rfl)
                  have hx := (hb.block m (Array.getElem?_eq_some_iff.1 HR1.out).1).trans HR1.out
                  have x1 := cells_at hx 1 _ rfl
                  unfold Oper.wp
                  go_simp
                  exact Stepped.at (v := .int .i64 gn) (by first | rfl | simp) hd (Below.refl _ _) rfl
                · intro a wx hb hd hs ho hp
                  refine Or.inl ⟨wanted_yes rfl (yielded_at (k := 8) (d := 25) (by kernel_rfl) (show a.tmps.getD 25 undef = _ from facts_at hp 8 25 (by kernel_rfl))), ?_⟩
                  have h31 : a.tmps.getD 31 undef = .int .i64 us.length := facts_at hp 14 31 (by kernel_rfl)
                  have h33 : a.tmps.getD 33 undef = .int .i64 gn := facts_at hp 16 33 (by kernel_rfl)
                  unfold Oper.wp
                  go_simp
                  exact Stepped.at (v := .bool true) (by first | rfl | simp) hd (Below.refl _ _) rfl
                · intro a wx hb hd hs ho hp
                  refine Or.inl ⟨rfl, ?_⟩
                  have h25 : a.tmps.getD 25 undef = .bool true := facts_at hp 8 25 (by kernel_rfl)
                  have h34 : a.tmps.getD 34 undef = .bool true := facts_at hp 17 34 (by kernel_rfl)
                  unfold Oper.wp
                  go_simp
                  exact Stepped.at (v := .bool true) (by first | rfl | simp) hd (Below.refl _ _) rfl
                · intro a wx hb hd hs ho hp
                  refine Or.inl ⟨rfl, ?_⟩
                  have h35 : a.tmps.getD 35 undef = .bool true := facts_at hp 18 35 (by kernel_rfl)
                  unfold Oper.wp
                  go_simp
                  exact Stepped.at (v := .bool true) (by first | rfl | simp) hd (Below.refl _ _) rfl
                · intro a wx hb hd hs ho hp
                  refine Or.inl ⟨wanted_yes rfl (yielded_at (k := 19) (d := 36) (by kernel_rfl) (show a.tmps.getD 36 undef = _ from facts_at hp 19 36 (by kernel_rfl))), ?_⟩
                  have h2 : a.tmps.getD 2 undef = .int .i64 an := (ho 2 (by kernel_rfl)).trans rfl
                  unfold Oper.wp
                  go_simp
                  exact Stepped.at (v := .int .i64 an) (by first | rfl | simp) hd (Below.refl _ _) rfl
                · intro a wx hb hd hs ho hp
                  refine Or.inl ⟨wanted_yes rfl (yielded_at (k := 19) (d := 36) (by kernel_rfl) (show a.tmps.getD 36 undef = _ from facts_at hp 19 36 (by kernel_rfl))), ?_⟩
                  have h37 : a.tmps.getD 37 undef = .int .i64 an := facts_at hp 20 37 (by kernel_rfl)
                  unfold Oper.wp
                  go_simp
                  exact Stepped.at (v := .bool false) (by first | rfl | simp) hd (Below.refl _ _) rfl
                · intro a wx hb hd hs ho hp
                  refine Or.inl ⟨wanted_yes rfl (yielded_at (k := 19) (d := 36) (by kernel_rfl) (show a.tmps.getD 36 undef = _ from facts_at hp 19 36 (by kernel_rfl))), ?_⟩
                  have h38 : a.tmps.getD 38 undef = .bool false := facts_at hp 21 38 (by kernel_rfl)
                  unfold Oper.wp
                  go_simp
                  exact Stepped.at (v := .bool false) (by first | rfl | simp) hd (Below.refl _ _) rfl
                · intro a wx hb hd hs ho hp
                  refine Or.inl ⟨wanted_yes rfl (yielded_at (k := 22) (d := 39) (by kernel_rfl) (show a.tmps.getD 39 undef = _ from facts_at hp 22 39 (by kernel_rfl))), ?_⟩
                  have h0 : a.tmps.getD 0 undef = .slice (some ⟨gl, 0, none⟩) L.length cl := (ho 0 (by kernel_rfl)).trans rfl
                  unfold Oper.wp
                  go_simp
                  exact Stepped.at (v := .slice (some ⟨gl, 0, none⟩) L.length cl) (by first | rfl | simp) hd (Below.refl _ _) rfl
                · intro a wx hb hd hs ho hp
                  refine Or.inl ⟨wanted_yes rfl (yielded_at (k := 22) (d := 39) (by kernel_rfl) (show a.tmps.getD 39 undef = _ from facts_at hp 22 39 (by kernel_rfl))), ?_⟩
                  have h10 : a.tmps.getD 10 undef = .int .i64 j := (ho 10 (by kernel_rfl)).trans rfl
                  unfold Oper.wp
                  go_simp
                  exact Stepped.at (v := .int .i64 j) (by first | rfl | simp) hd (Below.refl _ _) rfl
                · intro a wx hb hd hs ho hp
                  refine Or.inl ⟨wanted_yes rfl (yielded_at (k := 22) (d := 39) (by kernel_rfl) (show a.tmps.getD 39 undef = _ from facts_at hp 22 39 (by kernel_rfl))), ?_⟩
                  have h40 : a.tmps.getD 40 undef = .slice (some ⟨gl, 0, none⟩) L.length cl := facts_at hp 23 40 (by kernel_rfl)
                  have h41 : a.tmps.getD 41 undef = .int .i64 j := facts_at hp 24 41 (by kernel_rfl)
                  unfold Oper.wp
                  go_simp
                  exact Stepped.at (v := .pointer (some ⟨gl, j * 2, none⟩)) (by first | rfl | simp) hd (Below.refl _ _) rfl
                · intro a wx hb hd hs ho hp
                  refine Or.inl ⟨wanted_yes rfl (yielded_at (k := 22) (d := 39) (by kernel_rfl) (show a.tmps.getD 39 undef = _ from facts_at hp 22 39 (by kernel_rfl))), ?_⟩
                  have h42 : a.tmps.getD 42 undef = .pointer (some ⟨gl, j * 2, none⟩) := facts_at hp 25 42 (by kernel_rfl)
                  unfold Oper.wp
                  go_simp
                  exact Stepped.at (v := .pointer (some ⟨gl, j * 2 + 1, none⟩)) (by first | rfl | simp) hd (Below.refl _ _) rfl
                · intro a wx hb hd hs ho hp
                  refine Or.inl ⟨wanted_yes rfl (yielded_at (k := 22) (d := 39) (by kernel_rfl) (show a.tmps.getD 39 undef = _ from facts_at hp 22 39 (by kernel_rfl))), ?_⟩
                  have h43 : a.tmps.getD 43 undef = .pointer (some ⟨gl, j * 2 + 1, none⟩) := facts_at hp 26 43 (by kernel_rfl)
                  have x0 := (hb.cell (block_lt_of_cell G1.out)).trans G1.out
                  unfold Oper.wp
                  go_simp
                  exact Stepped.at (v := .slice (some ⟨bx, off, none⟩) us.length cx) (by first | rfl | simp) hd (Below.refl _ _) rfl
                · intro a wx hb hd hs ho hp
                  refine Or.inl ⟨wanted_yes rfl (yielded_at (k := 22) (d := 39) (by kernel_rfl) (show a.tmps.getD 39 undef = _ from facts_at hp 22 39 (by kernel_rfl))), ?_⟩
                  have h2 : a.tmps.getD 2 undef = .int .i64 an := (ho 2 (by kernel_rfl)).trans rfl
                  unfold Oper.wp
                  go_simp
                  exact Stepped.at (v := .int .i64 an) (by first | rfl | simp) hd (Below.refl _ _) rfl
                · intro a wx hb hd hs ho hp
                  refine Or.inl ⟨wanted_yes rfl (yielded_at (k := 22) (d := 39) (by kernel_rfl) (show a.tmps.getD 39 undef = _ from facts_at hp 22 39 (by kernel_rfl))), ?_⟩
                  have h44 : a.tmps.getD 44 undef = .slice (some ⟨bx, off, none⟩) us.length cx := facts_at hp 27 44 (by kernel_rfl)
                  have h45 : a.tmps.getD 45 undef = .int .i64 an := facts_at hp 28 45 (by kernel_rfl)
                  unfold Oper.wp
                  go_simp
                  exact Stepped.at (v := .pointer (some ⟨bx, off + an * 4, none⟩)) (by first | rfl | simp) hd (Below.refl _ _) rfl
                · intro a wx hb hd hs ho hp
                  refine Or.inl ⟨wanted_yes rfl (yielded_at (k := 22) (d := 39) (by kernel_rfl) (show a.tmps.getD 39 undef = _ from facts_at hp 22 39 (by kernel_rfl))), ?_⟩
                  have h46 : a.tmps.getD 46 undef = .pointer (some ⟨bx, off + an * 4, none⟩) := facts_at hp 29 46 (by kernel_rfl)
                  have s46 := qslot_of (hs.trans (rfl : _ = 60)) (by decide) h46
                  have z0 := (hb.cell (block_lt_of_cell Y0.out)).trans Y0.out
                  have z1 := (hb.cell (block_lt_of_cell Y1.out)).trans Y1.out
                  have z2 := (hb.cell (block_lt_of_cell Y2.out)).trans Y2.out
                  have z3 := (hb.cell (block_lt_of_cell Y3.out)).trans Y3.out
                  unfold Oper.wp
                  go_simp
                  exact Stepped.at (v := .agg #[x0, x1, x2, x3]) (by first | rfl | simp) hd (Below.refl _ _) rfl
                · intro a wx hb hd hs ho hp
                  refine Or.inl ⟨wanted_yes rfl (yielded_at (k := 22) (d := 39) (by kernel_rfl) (show a.tmps.getD 39 undef = _ from facts_at hp 22 39 (by kernel_rfl))), ?_⟩
                  have h7 : a.tmps.getD 7 undef = .pointer (some ⟨m + 1, 0, none⟩) := (ho 7 (by kernel_rfl)).trans rfl
                  have hx := (hb.block (m + 1) (Array.getElem?_eq_some_iff.1 HR2.out).1).trans HR2.out
                  have s7 := qslot_of (hs.trans (rfl : _ = 60)) (by decide) h7
                  have x0 := cells_at hx 0 _ rfl
                  have x1 := cells_at hx 1 _ rfl
                  have x2 := cells_at hx 2 _ rfl
                  have x3 := cells_at hx 3 _ rfl
                  unfold Oper.wp
                  go_simp
                  exact Stepped.at (v := .agg #[.int .u8 tk, .int .i64 tn, .string ts, .slice ta tu.length tc]) (by first | rfl | simp) hd (Below.refl _ _) rfl
                · intro a wx hb hd hs ho hp
                  refine Or.inl ⟨wanted_yes rfl (yielded_at (k := 22) (d := 39) (by kernel_rfl) (show a.tmps.getD 39 undef = _ from facts_at hp 22 39 (by kernel_rfl))), ?_⟩
                  have h47 : a.tmps.getD 47 undef = .agg #[x0, x1, x2, x3] := facts_at hp 30 47 (by kernel_rfl)
                  have h48 : a.tmps.getD 48 undef = .agg #[.int .u8 tk, .int .i64 tn, .string ts, .slice ta tu.length tc] := facts_at hp 31 48 (by kernel_rfl)
                  have hx := sameTerm_any u t _ _ _ _ _ _ _ _ wx ((HIX.out.below hb).mono hb.size) ((HTR.out.below hb).mono hb.size)
                  rw [HBB.out] at hx
                  unfold Oper.wp
                  go_simp
                  refine (hx).mono ?_
                  rintro e w9 ⟨rfl, hb9⟩
                  exact Stepped.at (v := .bool true) rfl hd (hb9) rfl
                · intro a wx hb hd hs ho hp
                  refine Or.inl ⟨wanted_yes rfl (yielded_at (k := 19) (d := 36) (by kernel_rfl) (show a.tmps.getD 36 undef = _ from facts_at hp 19 36 (by kernel_rfl))), ?_⟩
                  have h39 : a.tmps.getD 39 undef = .bool false := facts_at hp 22 39 (by kernel_rfl)
                  have h49 : a.tmps.getD 49 undef = .bool true := facts_at hp 32 49 (by kernel_rfl)
                  unfold Oper.wp
                  go_simp
                  exact Stepped.at (v := .bool true) (by first | rfl | simp) hd (Below.refl _ _) rfl
                · intro a wx hb hd hs ho hp
                  refine Or.inl ⟨rfl, ?_⟩
                  have h36 : a.tmps.getD 36 undef = .bool true := facts_at hp 19 36 (by kernel_rfl)
                  have h50 : a.tmps.getD 50 undef = .bool true := facts_at hp 33 50 (by kernel_rfl)
                  unfold Oper.wp
                  go_simp
                  exact Stepped.at (v := .bool true) (by first | rfl | simp) hd (Below.refl _ _) rfl
              intro ac W8 hJ
              obtain ⟨u17, f17⟩ : ∃ u, ac.tmps.getD 17 undef = u := ⟨_, rfl⟩
              obtain ⟨u18, f18⟩ : ∃ u, ac.tmps.getD 18 undef = u := ⟨_, rfl⟩
              obtain ⟨u19, f19⟩ : ∃ u, ac.tmps.getD 19 undef = u := ⟨_, rfl⟩
              obtain ⟨u20, f20⟩ : ∃ u, ac.tmps.getD 20 undef = u := ⟨_, rfl⟩
              obtain ⟨u21, f21⟩ : ∃ u, ac.tmps.getD 21 undef = u := ⟨_, rfl⟩
              obtain ⟨u22, f22⟩ : ∃ u, ac.tmps.getD 22 undef = u := ⟨_, rfl⟩
              obtain ⟨u23, f23⟩ : ∃ u, ac.tmps.getD 23 undef = u := ⟨_, rfl⟩
              obtain ⟨u24, f24⟩ : ∃ u, ac.tmps.getD 24 undef = u := ⟨_, rfl⟩
              obtain ⟨u25, f25⟩ : ∃ u, ac.tmps.getD 25 undef = u := ⟨_, rfl⟩
              obtain ⟨u26, f26⟩ : ∃ u, ac.tmps.getD 26 undef = u := ⟨_, rfl⟩
              obtain ⟨u27, f27⟩ : ∃ u, ac.tmps.getD 27 undef = u := ⟨_, rfl⟩
              obtain ⟨u28, f28⟩ : ∃ u, ac.tmps.getD 28 undef = u := ⟨_, rfl⟩
              obtain ⟨u29, f29⟩ : ∃ u, ac.tmps.getD 29 undef = u := ⟨_, rfl⟩
              obtain ⟨u30, f30⟩ : ∃ u, ac.tmps.getD 30 undef = u := ⟨_, rfl⟩
              obtain ⟨u31, f31⟩ : ∃ u, ac.tmps.getD 31 undef = u := ⟨_, rfl⟩
              obtain ⟨u32, f32⟩ : ∃ u, ac.tmps.getD 32 undef = u := ⟨_, rfl⟩
              obtain ⟨u33, f33⟩ : ∃ u, ac.tmps.getD 33 undef = u := ⟨_, rfl⟩
              obtain ⟨u34, f34⟩ : ∃ u, ac.tmps.getD 34 undef = u := ⟨_, rfl⟩
              obtain ⟨u35, f35⟩ : ∃ u, ac.tmps.getD 35 undef = u := ⟨_, rfl⟩
              obtain ⟨u36, f36⟩ : ∃ u, ac.tmps.getD 36 undef = u := ⟨_, rfl⟩
              obtain ⟨u37, f37⟩ : ∃ u, ac.tmps.getD 37 undef = u := ⟨_, rfl⟩
              obtain ⟨u38, f38⟩ : ∃ u, ac.tmps.getD 38 undef = u := ⟨_, rfl⟩
              obtain ⟨u39, f39⟩ : ∃ u, ac.tmps.getD 39 undef = u := ⟨_, rfl⟩
              obtain ⟨u40, f40⟩ : ∃ u, ac.tmps.getD 40 undef = u := ⟨_, rfl⟩
              obtain ⟨u41, f41⟩ : ∃ u, ac.tmps.getD 41 undef = u := ⟨_, rfl⟩
              obtain ⟨u42, f42⟩ : ∃ u, ac.tmps.getD 42 undef = u := ⟨_, rfl⟩
              obtain ⟨u43, f43⟩ : ∃ u, ac.tmps.getD 43 undef = u := ⟨_, rfl⟩
              obtain ⟨u44, f44⟩ : ∃ u, ac.tmps.getD 44 undef = u := ⟨_, rfl⟩
              obtain ⟨u45, f45⟩ : ∃ u, ac.tmps.getD 45 undef = u := ⟨_, rfl⟩
              obtain ⟨u46, f46⟩ : ∃ u, ac.tmps.getD 46 undef = u := ⟨_, rfl⟩
              obtain ⟨u47, f47⟩ : ∃ u, ac.tmps.getD 47 undef = u := ⟨_, rfl⟩
              obtain ⟨u48, f48⟩ : ∃ u, ac.tmps.getD 48 undef = u := ⟨_, rfl⟩
              obtain ⟨u49, f49⟩ : ∃ u, ac.tmps.getD 49 undef = u := ⟨_, rfl⟩
              obtain ⟨u50, f50⟩ : ∃ u, ac.tmps.getD 50 undef = u := ⟨_, rfl⟩
              have f51 : ac.tmps.getD 51 undef = .bool true := hJ.at_end 34 51 (by kernel_rfl)
              have hBelow := hJ.below
              obtain ⟨TT, DD⟩ := ac
              obtain rfl : DD = [] := hJ.defers
              have hE := slots_merge [false, false, false, false, false, false, false, false, false, false, false, false, false, false, false, false, false, true, true, true, true, true, true, true, true, true, true, true, true, true, true, true, true, true, true, true, true, true, true, true, true, true, true, true, true, true, true, true, true, true, true, true, false, false, false, false, false, false, false, false] 60 hJ.tmps rfl (by kernel_rfl) hJ.outer
              simp only [mergeFrom, Nat.zero_add, Nat.reduceAdd, f17, f18, f19, f20, f21, f22, f23, f24, f25, f26, f27, f28, f29, f30, f31, f32, f33, f34, f35, f36, f37, f38, f39, f40, f41, f42, f43, f44, f45, f46, f47, f48, f49, f50, f51] at hE
              clear hst hJ f17 f18 f19 f20 f21 f22 f23 f24 f25 f26 f27 f28 f29 f30 f31 f32 f33 f34 f35 f36 f37 f38 f39 f40 f41 f42 f43 f44 f45 f46 f47 f48 f49 f50 f51
              subst hE
              have x0 := (hBelow.cell (block_lt_of_cell G0.out)).trans G0.out
              have x1 := (hBelow.cell (block_lt_of_cell G1.out)).trans G1.out
              have HO3 := Lib.hid (own_grown' HO.out hBelow)
              have HF3 := Lib.hid (HF.out.same (S' := fun b => b < W.heap.size) (w' := W8) (fun _ h => h) (fun b h => hBelow.block b (Nat.lt_of_lt_of_le h HBR.out.size)))
              have HX3 := Lib.hid (HXX.out.below hBelow)
              have HX4 := Lib.hid (show AtS (fun b => b < W.heap.size) W8 (.string p) (.slice (some ⟨bx, off, none⟩) us.length cx) (p, us) from HX0.out.same (fun _ h => h) (fun b h => (HBR.out.trans (hBelow.mono HBR.out.size)).block b h))
              have HONE := Lib.hid (row2_one HXX.out)
              obtain ⟨i0, hi, hz0, hz1, hz2⟩ := info_parts' (show (Tryz.prog.info? 24).map (fun i => (i.zero, i.size, i.bytes)) = some (some (.agg #[.string ⟨#[]⟩, .slice none 0 0]), 2, 40) by kernel_rfl)
              have HB3 := Lib.hid (HBR.out.trans (hBelow.mono HBR.out.size))
              clear hBelow
              go_wp2_with (at_builtin; refine wpList_append_own_at _ rfl _ _ 26 rfl W.heap.size 24 i0 _ 2 40 Tryz.underlying26 hi hz0 hz1 hz2 rfl (by decide) (.slice va Q.length vc) Q.length xs rfl ?c0 _ 1 1 [.string p, .slice (some ⟨bx, off, none⟩) us.length cx] rfl rfl ?c1 ?c2 ?c3 ?c4 ?c5 ?_)
              case c0 => exact own_grown' HO3.out ((Below.refl _ _).alloc (Nat.le_refl _) _)
              case c1 =>
                intro jj u' hu'
                have hn := World.alloc_heap_new W8 (.cells #[.string p, .slice (some ⟨bx, off, none⟩) us.length cx] 24)
                rcases jj with _ | _ | jj
                · cases hu'; exact cells_at hn 0 _ rfl
                · cases hu'; exact cells_at hn 1 _ rfl
                · simp at hu'
              case c2 => exact HONE.out
              case c3 => have := HNL.out; unfold maxLen; omega
              case c4 => have := HNL.out; omega
              case c5 => have := HB3.out.size; simp; omega
              intro v' w' hown' hgrow _ hat
              have hbN : Below W8.heap.size W8 (W8.alloc (.cells #[.string p, .slice (some ⟨bx, off, none⟩) us.length cx] 24)) := (Below.refl _ _).alloc (Nat.le_refl _) _
              have hbW : Below W.heap.size W (W8.alloc (.cells #[.string p, .slice (some ⟨bx, off, none⟩) us.length cx] 24)) := HB3.out.trans (hbN.mono HB3.out.size)
              have hobl := own_block HO.out
              have hk : ∀ b, b < W.heap.size → w'.heap[b]? = W8.heap[b]? := fun b hb => by
                refine (hgrow.block b (Nat.lt_of_lt_of_le hb hbW.size) (fun e => ?_)).trans (hbN.block b (Nat.lt_of_lt_of_le hb HB3.out.size))
                have := (hobl b e.symm).1
                omega
              have HNW := Lib.hid (show LstO W.heap.size w' v' ((L.take (j + 1)).filter (withP (gs, gn) an t)) from by
                rw [HFT.out, HE.out]
                simp only [if_true]
                exact ⟨xs ++ [.string p, .slice (some ⟨bx, off, none⟩) us.length cx], by simpa using hown', FlatA.snoc (HX4.out.same (fun _ h => h) hk) (HF3.out.same (fun _ h => h) hk)⟩)
              have HBZ := Lib.hid (show Below W.heap.size W w' from hbW.grown hgrow hbW.size (fun k e => (hobl k e).1))
              clear hown' hgrow hat hbN hbW hobl hk
              go_wp2
              go_roundw
              case rel => exact ⟨j + 1, by omega, by go_num, HNW.out, HBZ.out⟩
              case measure => simp [intOf]; omega
        · have hn2 : ((us.length : Int) == (gn : Int)) = false := by simp; omega
          have HE := Lib.hid (show withP (gs, gn) arg t (p, us) = false by unfold withP; simp only [e1, decide_eq_false e2, Bool.and_false, Bool.false_and])
          have E2 := Lib.hid e2
          clear e2
          go_wp2_with fail
          have hst := @FL_grow [fV (.slice (some ⟨gl, 0, none⟩) L.length cl), fV (.int .i64 j), fV (.pointer (some ⟨gl, j * 2, none⟩)), fV (.pointer (some ⟨gl, j * 2, none⟩)), fV (.string p), fV (.pointer (some ⟨m, 0, none⟩)), fV (.string gs), fV (.bool true), fV (.bool true), fV (.slice (some ⟨gl, 0, none⟩) L.length cl), fV (.int .i64 j), fV (.pointer (some ⟨gl, j * 2, none⟩)), fV (.pointer (some ⟨gl, j * 2 + 1, none⟩)), fV (.slice ax us.length cx), fV (.int .i64 us.length), fV (.pointer (some ⟨m, 1, none⟩)), fV (.int .i64 gn), fV (.bool false), fV (.bool false), fV (.bool false), fV undef, fV undef, fV undef, fV undef, fV undef, fV undef, fV undef, fV undef, fV undef, fV undef, fV undef, fV undef, fV undef, fV undef, fV (.bool false)] (by
            intro F hF
            simp only [List.mem_cons, List.not_mem_nil, or_false] at hF
            rcases hF with rfl | rfl | rfl | rfl | rfl | rfl | rfl | rfl | rfl | rfl | rfl | rfl | rfl | rfl | rfl | rfl | rfl | rfl | rfl | rfl | rfl | rfl | rfl | rfl | rfl | rfl | rfl | rfl | rfl | rfl | rfl | rfl | rfl | rfl | rfl <;> first | exact fV_stays _)
          refine wp_region_grow_orB (by kernel_rfl) (FL [fV (.slice (some ⟨gl, 0, none⟩) L.length cl), fV (.int .i64 j), fV (.pointer (some ⟨gl, j * 2, none⟩)), fV (.pointer (some ⟨gl, j * 2, none⟩)), fV (.string p), fV (.pointer (some ⟨m, 0, none⟩)), fV (.string gs), fV (.bool true), fV (.bool true), fV (.slice (some ⟨gl, 0, none⟩) L.length cl), fV (.int .i64 j), fV (.pointer (some ⟨gl, j * 2, none⟩)), fV (.pointer (some ⟨gl, j * 2 + 1, none⟩)), fV (.slice ax us.length cx), fV (.int .i64 us.length), fV (.pointer (some ⟨m, 1, none⟩)), fV (.int .i64 gn), fV (.bool false), fV (.bool false), fV (.bool false), fV undef, fV undef, fV undef, fV undef, fV undef, fV undef, fV undef, fV undef, fV undef, fV undef, fV undef, fV undef, fV undef, fV undef, fV (.bool false)]) hst (by kernel_rfl) (steps_or ?_) ?_
          · refine ⟨?_, ?_, ?_, ?_, ?_, ?_, ?_, ?_, ?_, ?_, ?_, ?_, ?_, ?_, ?_, ?_, ?_, ?_, ?_, ?_, ?_, ?_, ?_, ?_, ?_, ?_, ?_, ?_, ?_, ?_, ?_, ?_, ?_, ?_, ?_, trivial⟩
            · intro a wx hb hd hs ho hp
              refine Or.inl ⟨rfl, ?_⟩
              have h0 : a.tmps.getD 0 undef = .slice (some ⟨gl, 0, none⟩) L.length cl := (ho 0 (by kernel_rfl)).trans rfl
              unfold Oper.wp
              go_simp
              exact Stepped.at (v := .slice (some ⟨gl, 0, none⟩) L.length cl) (by first | rfl | simp) hd (Below.refl _ _) rfl
            · intro a wx hb hd hs ho hp
              refine Or.inl ⟨rfl, ?_⟩
              have h10 : a.tmps.getD 10 undef = .int .i64 j := (ho 10 (by kernel_rfl)).trans rfl
              unfold Oper.wp
              go_simp
              exact Stepped.at (v := .int .i64 j) (by first | rfl | simp) hd (Below.refl _ _) rfl
            · intro a wx hb hd hs ho hp
              refine Or.inl ⟨rfl, ?_⟩
              have h17 : a.tmps.getD 17 undef = .slice (some ⟨gl, 0, none⟩) L.length cl := facts_at hp 0 17 (by kernel_rfl)
              have h18 : a.tmps.getD 18 undef = .int .i64 j := facts_at hp 1 18 (by kernel_rfl)
              unfold Oper.wp
              go_simp
              exact Stepped.at (v := .pointer (some ⟨gl, j * 2, none⟩)) (by first | rfl | simp) hd (Below.refl _ _) rfl
            · intro a wx hb hd hs ho hp
              refine Or.inl ⟨rfl, ?_⟩
              have h19 : a.tmps.getD 19 undef = .pointer (some ⟨gl, j * 2, none⟩) := facts_at hp 2 19 (by kernel_rfl)
              unfold Oper.wp
              go_simp
              exact Stepped.at (v := .pointer (some ⟨gl, j * 2, none⟩)) (by first | rfl | simp) hd (Below.refl _ _) rfl
            · intro a wx hb hd hs ho hp
              refine Or.inl ⟨rfl, ?_⟩
              have h20 : a.tmps.getD 20 undef = .pointer (some ⟨gl, j * 2, none⟩) := facts_at hp 3 20 (by kernel_rfl)
              have x0 := (hb.cell (block_lt_of_cell G0.out)).trans G0.out
              unfold Oper.wp
              go_simp
              exact Stepped.at (v := .string p) (by first | rfl | simp) hd (Below.refl _ _) rfl
            · intro a wx hb hd hs ho hp
              refine Or.inl ⟨rfl, ?_⟩
              have h5 : a.tmps.getD 5 undef = .pointer (some ⟨m, 0, none⟩) := (ho 5 (by kernel_rfl)).trans rfl
              unfold Oper.wp
              go_simp
              exact Stepped.at (v := .pointer (some ⟨m, 0, none⟩)) (by first | rfl | simp) hd (Below.refl _ _) rfl
            · intro a wx hb hd hs ho hp
              refine Or.inl ⟨rfl, ?_⟩
              have h22 : a.tmps.getD 22 undef = .pointer (some ⟨m, 0, none⟩) := facts_at hp 5 22 (by kernel_rfl)
              have hx := (hb.block m (Array.getElem?_eq_some_iff.1 HR1.out).1).trans HR1.out
              have x0 := cells_at hx 0 _ rfl
              unfold Oper.wp
              go_simp
              exact Stepped.at (v := .string gs) (by first | rfl | simp) hd (Below.refl _ _) rfl
            · intro a wx hb hd hs ho hp
              refine Or.inl ⟨rfl, ?_⟩
              have h21 : a.tmps.getD 21 undef = .string p := facts_at hp 4 21 (by kernel_rfl)
              have h23 : a.tmps.getD 23 undef = .string gs := facts_at hp 6 23 (by kernel_rfl)
              unfold Oper.wp
              go_simp
              exact Stepped.at (v := .bool true) (by first | rfl | simp) hd (Below.refl _ _) rfl
            · intro a wx hb hd hs ho hp
              refine Or.inl ⟨rfl, ?_⟩
              have h24 : a.tmps.getD 24 undef = .bool true := facts_at hp 7 24 (by kernel_rfl)
              unfold Oper.wp
              go_simp
              exact Stepped.at (v := .bool true) (by first | rfl | simp) hd (Below.refl _ _) rfl
            · intro a wx hb hd hs ho hp
              refine Or.inl ⟨wanted_yes rfl (yielded_at (k := 8) (d := 25) (by kernel_rfl) (show a.tmps.getD 25 undef = _ from facts_at hp 8 25 (by kernel_rfl))), ?_⟩
              have h0 : a.tmps.getD 0 undef = .slice (some ⟨gl, 0, none⟩) L.length cl := (ho 0 (by kernel_rfl)).trans rfl
              unfold Oper.wp
              go_simp
              exact Stepped.at (v := .slice (some ⟨gl, 0, none⟩) L.length cl) (by first | rfl | simp) hd (Below.refl _ _) rfl
            · intro a wx hb hd hs ho hp
              refine Or.inl ⟨wanted_yes rfl (yielded_at (k := 8) (d := 25) (by kernel_rfl) (show a.tmps.getD 25 undef = _ from facts_at hp 8 25 (by kernel_rfl))), ?_⟩
              have h10 : a.tmps.getD 10 undef = .int .i64 j := (ho 10 (by kernel_rfl)).trans rfl
              unfold Oper.wp
              go_simp
              exact Stepped.at (v := .int .i64 j) (by first | rfl | simp) hd (Below.refl _ _) rfl
            · intro a wx hb hd hs ho hp
              refine Or.inl ⟨wanted_yes rfl (yielded_at (k := 8) (d := 25) (by kernel_rfl) (show a.tmps.getD 25 undef = _ from facts_at hp 8 25 (by kernel_rfl))), ?_⟩
              have h26 : a.tmps.getD 26 undef = .slice (some ⟨gl, 0, none⟩) L.length cl := facts_at hp 9 26 (by kernel_rfl)
              have h27 : a.tmps.getD 27 undef = .int .i64 j := facts_at hp 10 27 (by kernel_rfl)
              unfold Oper.wp
              go_simp
              exact Stepped.at (v := .pointer (some ⟨gl, j * 2, none⟩)) (by first | rfl | simp) hd (Below.refl _ _) rfl
            · intro a wx hb hd hs ho hp
              refine Or.inl ⟨wanted_yes rfl (yielded_at (k := 8) (d := 25) (by kernel_rfl) (show a.tmps.getD 25 undef = _ from facts_at hp 8 25 (by kernel_rfl))), ?_⟩
              have h28 : a.tmps.getD 28 undef = .pointer (some ⟨gl, j * 2, none⟩) := facts_at hp 11 28 (by kernel_rfl)
              unfold Oper.wp
              go_simp
              exact Stepped.at (v := .pointer (some ⟨gl, j * 2 + 1, none⟩)) (by first | rfl | simp) hd (Below.refl _ _) rfl
            · intro a wx hb hd hs ho hp
              refine Or.inl ⟨wanted_yes rfl (yielded_at (k := 8) (d := 25) (by kernel_rfl) (show a.tmps.getD 25 undef = _ from facts_at hp 8 25 (by kernel_rfl))), ?_⟩
              have h29 : a.tmps.getD 29 undef = .pointer (some ⟨gl, j * 2 + 1, none⟩) := facts_at hp 12 29 (by kernel_rfl)
              have x0 := (hb.cell (block_lt_of_cell G1.out)).trans G1.out
              unfold Oper.wp
              go_simp
              exact Stepped.at (v := .slice ax us.length cx) (by first | rfl | simp) hd (Below.refl _ _) rfl
            · intro a wx hb hd hs ho hp
              refine Or.inl ⟨wanted_yes rfl (yielded_at (k := 8) (d := 25) (by kernel_rfl) (show a.tmps.getD 25 undef = _ from facts_at hp 8 25 (by kernel_rfl))), ?_⟩
              have h30 : a.tmps.getD 30 undef = .slice ax us.length cx := facts_at hp 13 30 (by kernel_rfl)
              unfold Oper.wp
              go_simp
              exact Stepped.at (v := .int .i64 us.length) (by first | rfl | simp) hd (Below.refl _ _) rfl
            · intro a wx hb hd hs ho hp
              refine Or.inl ⟨wanted_yes rfl (yielded_at (k := 8) (d := 25) (by kernel_rfl) (show a.tmps.getD 25 undef = _ from facts_at hp 8 25 (by kernel_rfl))), ?_⟩
              have h5 : a.tmps.getD 5 undef = .pointer (some ⟨m, 0, none⟩) := (ho 5 (by kernel_rfl)).trans rfl
              unfold Oper.wp
              go_simp
              exact Stepped.at (v := .pointer (some ⟨m, 1, none⟩)) (by first | rfl | simp) hd (Below.refl _ _) rfl
            · intro a wx hb hd hs ho hp
              refine Or.inl ⟨wanted_yes rfl (yielded_at (k := 8) (d := 25) (by kernel_rfl) (show a.tmps.getD 25 undef = _ from facts_at hp 8 25 (by kernel_rfl))), ?_⟩
              have h32 : a.tmps.getD 32 undef = .pointer (some ⟨m, 1, none⟩) := facts_at hp 15 32 (by kernel_rfl)
              have hx := (hb.block m (Array.getElem?_eq_some_iff.1 HR1.out).1).trans HR1.out
              have x1 := cells_at hx 1 _ rfl
              unfold Oper.wp
              go_simp
              exact Stepped.at (v := .int .i64 gn) (by first | rfl | simp) hd (Below.refl _ _) rfl
            · intro a wx hb hd hs ho hp
              refine Or.inl ⟨wanted_yes rfl (yielded_at (k := 8) (d := 25) (by kernel_rfl) (show a.tmps.getD 25 undef = _ from facts_at hp 8 25 (by kernel_rfl))), ?_⟩
              have h31 : a.tmps.getD 31 undef = .int .i64 us.length := facts_at hp 14 31 (by kernel_rfl)
              have h33 : a.tmps.getD 33 undef = .int .i64 gn := facts_at hp 16 33 (by kernel_rfl)
              unfold Oper.wp
              go_simp
              exact Stepped.at (v := .bool false) (by first | rfl | simp) hd (Below.refl _ _) rfl
            · intro a wx hb hd hs ho hp
              refine Or.inl ⟨rfl, ?_⟩
              have h25 : a.tmps.getD 25 undef = .bool true := facts_at hp 8 25 (by kernel_rfl)
              have h34 : a.tmps.getD 34 undef = .bool false := facts_at hp 17 34 (by kernel_rfl)
              unfold Oper.wp
              go_simp
              exact Stepped.at (v := .bool false) (by first | rfl | simp) hd (Below.refl _ _) rfl
            · intro a wx hb hd hs ho hp
              refine Or.inl ⟨rfl, ?_⟩
              have h35 : a.tmps.getD 35 undef = .bool false := facts_at hp 18 35 (by kernel_rfl)
              unfold Oper.wp
              go_simp
              exact Stepped.at (v := .bool false) (by first | rfl | simp) hd (Below.refl _ _) rfl
            · intro a wx hb hd hs ho hp
              exact Or.inr ⟨wanted_no rfl (yielded_at (k := 19) (d := 36) (by kernel_rfl) (show a.tmps.getD 36 undef = _ from facts_at hp 19 36 (by kernel_rfl))), fun _ _ => rfl⟩
            · intro a wx hb hd hs ho hp
              exact Or.inr ⟨wanted_no rfl (yielded_at (k := 19) (d := 36) (by kernel_rfl) (show a.tmps.getD 36 undef = _ from facts_at hp 19 36 (by kernel_rfl))), fun _ _ => rfl⟩
            · intro a wx hb hd hs ho hp
              exact Or.inr ⟨wanted_no rfl (yielded_at (k := 19) (d := 36) (by kernel_rfl) (show a.tmps.getD 36 undef = _ from facts_at hp 19 36 (by kernel_rfl))), fun _ _ => rfl⟩
            · intro a wx hb hd hs ho hp
              exact Or.inr ⟨wanted_un (k := 22) (d := 39) rfl (by kernel_rfl) (show a.tmps.getD 39 undef = _ from facts_at hp 22 39 (by kernel_rfl)), fun _ _ => rfl⟩
            · intro a wx hb hd hs ho hp
              exact Or.inr ⟨wanted_un (k := 22) (d := 39) rfl (by kernel_rfl) (show a.tmps.getD 39 undef = _ from facts_at hp 22 39 (by kernel_rfl)), fun _ _ => rfl⟩
            · intro a wx hb hd hs ho hp
              exact Or.inr ⟨wanted_un (k := 22) (d := 39) rfl (by kernel_rfl) (show a.tmps.getD 39 undef = _ from facts_at hp 22 39 (by kernel_rfl)), fun _ _ => rfl⟩
            · intro a wx hb hd hs ho hp
              exact Or.inr ⟨wanted_un (k := 22) (d := 39) rfl (by kernel_rfl) (show a.tmps.getD 39 undef = _ from facts_at hp 22 39 (by kernel_rfl)), fun _ _ => rfl⟩
            · intro a wx hb hd hs ho hp
              exact Or.inr ⟨wanted_un (k := 22) (d := 39) rfl (by kernel_rfl) (show a.tmps.getD 39 undef = _ from facts_at hp 22 39 (by kernel_rfl)), fun _ _ => rfl⟩
            · intro a wx hb hd hs ho hp
              exact Or.inr ⟨wanted_un (k := 22) (d := 39) rfl (by kernel_rfl) (show a.tmps.getD 39 undef = _ from facts_at hp 22 39 (by kernel_rfl)), fun _ _ => rfl⟩
            · intro a wx hb hd hs ho hp
              exact Or.inr ⟨wanted_un (k := 22) (d := 39) rfl (by kernel_rfl) (show a.tmps.getD 39 undef = _ from facts_at hp 22 39 (by kernel_rfl)), fun _ _ => rfl⟩
            · intro a wx hb hd hs ho hp
              exact Or.inr ⟨wanted_un (k := 22) (d := 39) rfl (by kernel_rfl) (show a.tmps.getD 39 undef = _ from facts_at hp 22 39 (by kernel_rfl)), fun _ _ => rfl⟩
            · intro a wx hb hd hs ho hp
              exact Or.inr ⟨wanted_un (k := 22) (d := 39) rfl (by kernel_rfl) (show a.tmps.getD 39 undef = _ from facts_at hp 22 39 (by kernel_rfl)), fun _ _ => rfl⟩
            · intro a wx hb hd hs ho hp
              exact Or.inr ⟨wanted_un (k := 22) (d := 39) rfl (by kernel_rfl) (show a.tmps.getD 39 undef = _ from facts_at hp 22 39 (by kernel_rfl)), fun _ _ => rfl⟩
            · intro a wx hb hd hs ho hp
              exact Or.inr ⟨wanted_no rfl (yielded_at (k := 19) (d := 36) (by kernel_rfl) (show a.tmps.getD 36 undef = _ from facts_at hp 19 36 (by kernel_rfl))), fun _ _ => rfl⟩
            · intro a wx hb hd hs ho hp
              refine Or.inl ⟨rfl, ?_⟩
              have h36 : a.tmps.getD 36 undef = .bool false := facts_at hp 19 36 (by kernel_rfl)
              have h50 : a.tmps.getD 50 undef = undef := facts_at hp 33 50 (by kernel_rfl)
              unfold Oper.wp
              go_simp
              exact Stepped.at (v := .bool false) (by first | rfl | simp) hd (Below.refl _ _) rfl
          intro ac W8 hJ
          obtain ⟨u17, f17⟩ : ∃ u, ac.tmps.getD 17 undef = u := ⟨_, rfl⟩
          obtain ⟨u18, f18⟩ : ∃ u, ac.tmps.getD 18 undef = u := ⟨_, rfl⟩
          obtain ⟨u19, f19⟩ : ∃ u, ac.tmps.getD 19 undef = u := ⟨_, rfl⟩
          obtain ⟨u20, f20⟩ : ∃ u, ac.tmps.getD 20 undef = u := ⟨_, rfl⟩
          obtain ⟨u21, f21⟩ : ∃ u, ac.tmps.getD 21 undef = u := ⟨_, rfl⟩
          obtain ⟨u22, f22⟩ : ∃ u, ac.tmps.getD 22 undef = u := ⟨_, rfl⟩
          obtain ⟨u23, f23⟩ : ∃ u, ac.tmps.getD 23 undef = u := ⟨_, rfl⟩
          obtain ⟨u24, f24⟩ : ∃ u, ac.tmps.getD 24 undef = u := ⟨_, rfl⟩
          obtain ⟨u25, f25⟩ : ∃ u, ac.tmps.getD 25 undef = u := ⟨_, rfl⟩
          obtain ⟨u26, f26⟩ : ∃ u, ac.tmps.getD 26 undef = u := ⟨_, rfl⟩
          obtain ⟨u27, f27⟩ : ∃ u, ac.tmps.getD 27 undef = u := ⟨_, rfl⟩
          obtain ⟨u28, f28⟩ : ∃ u, ac.tmps.getD 28 undef = u := ⟨_, rfl⟩
          obtain ⟨u29, f29⟩ : ∃ u, ac.tmps.getD 29 undef = u := ⟨_, rfl⟩
          obtain ⟨u30, f30⟩ : ∃ u, ac.tmps.getD 30 undef = u := ⟨_, rfl⟩
          obtain ⟨u31, f31⟩ : ∃ u, ac.tmps.getD 31 undef = u := ⟨_, rfl⟩
          obtain ⟨u32, f32⟩ : ∃ u, ac.tmps.getD 32 undef = u := ⟨_, rfl⟩
          obtain ⟨u33, f33⟩ : ∃ u, ac.tmps.getD 33 undef = u := ⟨_, rfl⟩
          obtain ⟨u34, f34⟩ : ∃ u, ac.tmps.getD 34 undef = u := ⟨_, rfl⟩
          obtain ⟨u35, f35⟩ : ∃ u, ac.tmps.getD 35 undef = u := ⟨_, rfl⟩
          obtain ⟨u36, f36⟩ : ∃ u, ac.tmps.getD 36 undef = u := ⟨_, rfl⟩
          obtain ⟨u37, f37⟩ : ∃ u, ac.tmps.getD 37 undef = u := ⟨_, rfl⟩
          obtain ⟨u38, f38⟩ : ∃ u, ac.tmps.getD 38 undef = u := ⟨_, rfl⟩
          obtain ⟨u39, f39⟩ : ∃ u, ac.tmps.getD 39 undef = u := ⟨_, rfl⟩
          obtain ⟨u40, f40⟩ : ∃ u, ac.tmps.getD 40 undef = u := ⟨_, rfl⟩
          obtain ⟨u41, f41⟩ : ∃ u, ac.tmps.getD 41 undef = u := ⟨_, rfl⟩
          obtain ⟨u42, f42⟩ : ∃ u, ac.tmps.getD 42 undef = u := ⟨_, rfl⟩
          obtain ⟨u43, f43⟩ : ∃ u, ac.tmps.getD 43 undef = u := ⟨_, rfl⟩
          obtain ⟨u44, f44⟩ : ∃ u, ac.tmps.getD 44 undef = u := ⟨_, rfl⟩
          obtain ⟨u45, f45⟩ : ∃ u, ac.tmps.getD 45 undef = u := ⟨_, rfl⟩
          obtain ⟨u46, f46⟩ : ∃ u, ac.tmps.getD 46 undef = u := ⟨_, rfl⟩
          obtain ⟨u47, f47⟩ : ∃ u, ac.tmps.getD 47 undef = u := ⟨_, rfl⟩
          obtain ⟨u48, f48⟩ : ∃ u, ac.tmps.getD 48 undef = u := ⟨_, rfl⟩
          obtain ⟨u49, f49⟩ : ∃ u, ac.tmps.getD 49 undef = u := ⟨_, rfl⟩
          obtain ⟨u50, f50⟩ : ∃ u, ac.tmps.getD 50 undef = u := ⟨_, rfl⟩
          have f51 : ac.tmps.getD 51 undef = .bool false := hJ.at_end 34 51 (by kernel_rfl)
          have hBelow := hJ.below
          obtain ⟨TT, DD⟩ := ac
          obtain rfl : DD = [] := hJ.defers
          have hE := slots_merge [false, false, false, false, false, false, false, false, false, false, false, false, false, false, false, false, false, true, true, true, true, true, true, true, true, true, true, true, true, true, true, true, true, true, true, true, true, true, true, true, true, true, true, true, true, true, true, true, true, true, true, true, false, false, false, false, false, false, false, false] 60 hJ.tmps rfl (by kernel_rfl) hJ.outer
          simp only [mergeFrom, Nat.zero_add, Nat.reduceAdd, f17, f18, f19, f20, f21, f22, f23, f24, f25, f26, f27, f28, f29, f30, f31, f32, f33, f34, f35, f36, f37, f38, f39, f40, f41, f42, f43, f44, f45, f46, f47, f48, f49, f50, f51] at hE
          clear hst hJ f17 f18 f19 f20 f21 f22 f23 f24 f25 f26 f27 f28 f29 f30 f31 f32 f33 f34 f35 f36 f37 f38 f39 f40 f41 f42 f43 f44 f45 f46 f47 f48 f49 f50 f51
          subst hE
          have HBZ := Lib.hid (HBR.out.trans (hBelow.mono HBR.out.size))
          have HNW := Lib.hid (show LstO W.heap.size W8 (.slice va Q.length vc) ((L.take (j + 1)).filter (withP (gs, gn) arg t)) from by
            rw [HFT.out, HE.out]
            simp only [Bool.false_eq_true, if_false, List.append_nil]
            exact ⟨xs, own_grown' HO.out hBelow, HF.out.same (fun _ h => h) (fun b h => hBelow.block b (Nat.lt_of_lt_of_le h HBR.out.size))⟩)
          clear hBelow
          go_wp2
          go_roundw
          case rel => exact ⟨j + 1, by omega, by go_num, HNW.out, HBZ.out⟩
          case measure => simp [intOf]; omega
    · obtain rfl : j = L.length := by omega
      rw [List.take_length] at hr
      have HR := Lib.hid (hr.read hBr.size)
      have HBZ := Lib.hid (below_then HB.out hBr)
      clear hr hBr
      go_wp2
      go_ret
      exact ⟨_, rfl, HR.out, HBZ.out⟩
end Go.Proofs.YtcoieohbmkjpoaaGreatDoor
