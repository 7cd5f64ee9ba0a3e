/- Package arith: Expand. -/
import Derived.Test.YtnobmffgchlijaaGreatDoorAr
import Derived.Test.YtnobmffgchlijaaGreatDoorGr
namespace Go.Proofs.YtnobmffgchlijaaGreatDoor
open Go.RowKit Go.Shelf
attribute [local go_sem] Oper.semAt_some

/-- What a term expands to has few arguments everywhere. -/
theorem exp_small (t : Tm) : t.WfL8 → ∀ ts, t.exp = some ts → ∀ u ∈ ts, u.WfL8 := by
  induction t using Tm.ind with
  | h k n s us ih =>
    intro hw ts h
    simp only [Tm.WfL8] at hw
    have hnum : ∀ (l : List Int), ∀ u ∈ l.map numT, u.WfL8 := fun l u hu => by
      obtain ⟨m, _, rfl⟩ := List.mem_map.1 hu
      unfold numT
      simp only [Tm.WfL8, Tm.WfL8L]; exact ⟨by simp, trivial⟩
    by_cases h4 : k = 4
    · subst h4
      rw [Tm.exp_fun, Option.bind_eq_some_iff] at h
      obtain ⟨ls, hls, h⟩ := h
      obtain ⟨hl, he⟩ := Tm.expL_some hls
      split at h
      · cases h
        intro u hu
        obtain ⟨c, hc, rfl⟩ := List.mem_map.1 hu
        obtain ⟨hcl, hci⟩ := (combos_mem ls c).1 hc
        simp only [Tm.WfL8]
        refine ⟨by omega, ?_⟩
        have hall : ∀ x ∈ c, x.WfL8 := fun x hx => by
          obtain ⟨i, hi, rfl⟩ := List.getElem_of_mem hx
          exact ih us[i] (List.getElem_mem (by omega)) (Tm.WfL8_mem hw.2 (List.getElem_mem (by omega))) _ (he i (by omega) (by omega)) _ (hci i hi (by omega))
        clear hcl hci hc hu
        induction c with
        | nil => simp only [Tm.WfL8L]
        | cons x c ihc =>
          simp only [Tm.WfL8L]
          exact ⟨hall x (by simp), ihc fun y hy => hall y (by simp [hy])⟩
      · cases h
    · by_cases h5 : k = 5
      · subst h5
        rw [Tm.exp_op, Option.bind_eq_some_iff] at h
        obtain ⟨ls, _, h⟩ := h
        split at h
        · cases h
        · split at h
          · cases h; exact hnum _
          · cases h
      · by_cases h6 : k = 6
        · subst h6
          rw [Tm.exp_span, Option.bind_eq_some_iff] at h
          obtain ⟨ls, _, h⟩ := h
          split at h
          · split at h
            · cases h; exact hnum _
            · cases h
          · cases h; intro u hu; cases hu
        · rw [Tm.exp_leaf h4 h5 h6] at h
          cases h
          intro u hu
          obtain rfl : u = .mk k n s [] := by simpa using hu
          simp only [Tm.WfL8, Tm.WfL8L]; exact ⟨by simp, trivial⟩
theorem Vals.setLow {B P o : Nat} {W : World} {v x : Value} {ts : List Tm} (h : Vals none B W v ts) (hP : P < B) : Vals none B (W.setCell ⟨P, o, none⟩ x) v ts := by
  obtain ⟨xs, ho, hh, hx⟩ := h
  refine ⟨xs, ownsRow_setCell_below ho hP x, hh.keep fun b hf => ⟨⟨hf.1, by simpa [World.setCell] using hf.2.1, hf.2.2⟩, Below.heap_setCell _ _ _ b (by have := hf.1; simp; omega)⟩, fun g e => by cases e⟩
theorem HoldL.set {ok : Nat → Prop} {w : World} {d0 d1 d2 d3 : Value} : ∀ {ts : List Tm} {xs : List Value}, HoldL ok w xs ts → ∀ j (h : j < ts.length), IsTmIn ok w d0 d1 d2 d3 ts[j] → HoldL ok w ((((xs.set (j * 4) d0).set (j * 4 + 1) d1).set (j * 4 + 2) d2).set (j * 4 + 3) d3) ts
  | [], _, _, j, h, _ => absurd h (by simp)
  | t :: ts, _, ⟨c0, c1, c2, c3, r, e, ht, hr⟩, j, h, hi => by
    subst e
    cases j with
    | zero => exact ⟨d0, d1, d2, d3, r, rfl, hi, hr⟩
    | succ j =>
      refine ⟨c0, c1, c2, c3, (((r.set (j * 4) d0).set (j * 4 + 1) d1).set (j * 4 + 2) d2).set (j * 4 + 3) d3, ?_, ht, HoldL.set hr j (by simpa using h) (by simpa using hi)⟩
      rw [show (j + 1) * 4 = j * 4 + 4 from by omega]
      rfl
/-- What each slot stands for, ahead of the store of a detached term. -/
def FnD (H : Nat) (V : Value) (j : Nat) (A : Value) (u : Tm) : Facts := fun i v w => match i with
  | 0 => v = V
  | 1 => v = .int .i64 j
  | 2 => v = A
  | 3 => ∃ k n s a m c, v = .agg #[.int .u8 k, .int .i64 n, .string s, .slice a m c] ∧ IsTmIn (fun b => H ≤ b ∧ b < w.heap.size) w (.int .u8 k) (.int .i64 n) (.string s) (.slice a m c) u
  | _ => True
theorem FnD_grow (H : Nat) (V : Value) (j : Nat) (A : Value) (u : Tm) (i : Nat) (v : Value) (w w' : World) (h : FnD H V j A u i v w) (hb : Below w.heap.size w w') : FnD H V j A u i v w' := by
  match i with
  | 0 | 1 | 2 => exact h
  | 3 =>
    obtain ⟨k, n, s, a, m, c, h1, h2⟩ := h
    exact ⟨k, n, s, a, m, c, h1, h2.keep fun b hf => ⟨⟨hf.1, Nat.lt_of_lt_of_le hf.2 hb.size⟩, hb.block b hf.2⟩⟩
  | i + 4 => trivial
/-- The loop of Expand. -/
def XL (B N : Nat) (w : World) (V : Value) (ts : List Tm) (wl : World) : Prop :=
  Vals none B wl V ts ∧ Boxed wl (N + 1) 30 V ∧ Boxed wl (N + 1 + 1) 35 (.int .i64 0) ∧ Below N w wl ∧ B ≤ wl.heap.size
/-- What Expand gives. -/
def XRes (t : Tm) (B : Nat) (w' : World) (v : Value) (er : Int) : Prop :=
  ((t.validB && t.groundB) = false ∧ v = .slice none 0 0 ∧ er = 2) ∨ ((t.validB && t.groundB) = true ∧ t.exp = none ∧ v = .slice none 0 0 ∧ er = 5) ∨ ((t.validB && t.groundB) = true ∧ ∃ ts, t.exp = some ts ∧ er = 0 ∧ Vals none B w' v ts)
def XPost (t : Tm) (w : World) (e : Ending) (w' : World) : Prop := ∃ v er, e = .returned (.tuple #[v, .int .i64 er]) ∧ Below w.heap.size w w' ∧ XRes t w.heap.size w' v er

theorem two_set {W : World} {P : Nat} {t1 t2 : TypeId} {v1 v2 : Value} (h1 : Boxed W P t1 v1) (h2 : Boxed W (P + 1) t2 v2) (a b : Value) :
    Boxed ((W.setCell ⟨P, 0, none⟩ a).setCell ⟨P + 1, 0, none⟩ b) P t1 a ∧ Boxed ((W.setCell ⟨P, 0, none⟩ a).setCell ⟨P + 1, 0, none⟩ b) (P + 1) t2 b :=
  ⟨(h1.set a).other (by omega) b, (h2.other (by omega) a).set b⟩

set_option maxRecDepth 100000 in
set_option maxHeartbeats 40000000 in
theorem expandApi_any (t : Tm) (c0 c1 c2 c3 : Value) (w : World) (ht : IsTm w.heap.size w c0 c1 c2 c3 t) (hdep : t.depth < 4611686018427387900) : Calls Tryz.prog 16 #[.agg #[c0, c1, c2, c3]] w (XPost t w) := by
  have ht0 := ht
  obtain ⟨k, n, s, us⟩ := t
  simp only [IsTm] at ht
  obtain ⟨rfl, hk, rfl, hn, rfl, hss, a, cap, rfl, hl, _⟩ := ht
  obtain ⟨t, hte⟩ : ∃ t, Tm.mk k n s us = t := ⟨_, rfl⟩
  rw [hte] at ht0 hdep ⊢
  clear hte
  have hmf : ∀ (fn : Fn) (first cap : Array Value) (w : World), (Instr.makeFunc fn first cap).run Tryz.prog w = .ok (.func fn first cap) w := fun _ _ _ _ => rfl
  obtain ⟨W0, hW0⟩ : ∃ W0, ((w.alloc (.cells #[.int .u8 k, .int .i64 n, .string s, .slice a us.length cap] 32)).alloc (.cells #[.slice none 0 0] 30)).alloc (.cells #[.int .i64 0] 35) = W0 := ⟨_, rfl⟩
  have hb0 : Below w.heap.size w W0 := by rw [← hW0]; exact (((Below.refl _ w).alloc (Nat.le_refl _) _).alloc (by simp) _).alloc (by simp; omega) _
  have hsz : W0.heap.size = w.heap.size + 3 := by rw [← hW0]; simp
  have hN : W0.heap[w.heap.size]? = some (.cells #[.int .u8 k, .int .i64 n, .string s, .slice a us.length cap] 32 (0, 0)) := by
    rw [← hW0]; exact (Below.heap_alloc _ _ _ (by simp; omega)).trans ((Below.heap_alloc _ _ _ (by simp)).trans (World.alloc_heap_new _ _))
  have hP1 : Boxed W0 (w.heap.size + 1) 30 (.slice none 0 0) := by
    rw [← hW0]; have := Boxed.new (w.alloc (.cells #[.int .u8 k, .int .i64 n, .string s, .slice a us.length cap] 32)) 30 (.slice none 0 0); rw [World.size_alloc] at this; exact this.alloc _
  have hP2 : Boxed W0 (w.heap.size + 1 + 1) 35 (.int .i64 0) := by
    rw [← hW0]; have := Boxed.new ((w.alloc (.cells #[.int .u8 k, .int .i64 n, .string s, .slice a us.length cap] 32)).alloc (.cells #[.slice none 0 0] 30)) 35 (.int .i64 0); rw [World.size_alloc, World.size_alloc] at this; exact this
  have x0 := cells_at hN 0 _ rfl
  have x1 := cells_at hN 1 _ rfl
  have x2 := cells_at hN 2 _ rfl
  have x3 := cells_at hN 3 _ rfl
  have HV := Lib.hid (valid_any t _ _ _ _ W0 ((ht0.below hb0).mono hb0.size) hdep)
  cases hv : t.validB
  · rw [hv] at HV
    have HX := Lib.hid (show (t.validB && t.groundB) = false by rw [hv]; rfl)
    clear hv
    go_enter_defers Tryz.func16, Tryz.ntmps16
    go_wp2_with (go_at_call 14; refine HV.out.mono ?_)
    clear HV
    rintro e W1 ⟨rfl, hb1⟩
    have z1 := hb1.size
    have hN1 := (hb1.block w.heap.size (by omega)).trans hN
    have hP1' : Boxed W1 (w.heap.size + 1) 30 (.slice none 0 0) := (hb1.block _ (by omega)).trans hP1
    have hP2' : Boxed W1 (w.heap.size + 1 + 1) 35 (.int .i64 0) := (hb1.block _ (by omega)).trans hP2
    have x0 := cells_at hN1 0 _ rfl
    have x1 := cells_at hN1 1 _ rfl
    have x2 := cells_at hN1 2 _ rfl
    have x3 := cells_at hN1 3 _ rfl
    have p1 := hP1'.cell
    have p2 := hP2'.cell
    have q1 := hP1'.frozen
    have q2 := hP2'.frozen
    have hBW := hb0.trans (hb1.mono hb0.size)
    have HB := Lib.hid hBW
    clear hb1 hBW hN1 hN hb0
    have HP1 := Lib.hid hP1'
    have HP2 := Lib.hid hP2'
    go_wp2
    have e1 := (HP1.out.set (.slice none 0 0)).cell
    have e2 := (two_set HP1.out HP2.out (.slice none 0 0) (.int .i64 2)).2.cell
    have e3 := (two_set HP1.out HP2.out (.slice none 0 0) (.int .i64 2)).1.cell
    refine ⟨.tuple #[.slice none 0 0, .int .i64 2], by simp [results, Tryz.f16, go_sem, e2, e3], ?_⟩
    exact ⟨_, _, rfl, (HB.out.setCell (p := ⟨w.heap.size + 1, 0, none⟩) (by simp) _).setCell (p := ⟨w.heap.size + 1 + 1, 0, none⟩) (by simp; omega) _, .inl ⟨HX.out, rfl, rfl⟩⟩
  · have HW := Lib.hid (valid_wf hv)
    have HVV := Lib.hid hv
    rw [hv] at HV
    clear hv
    go_enter_defers Tryz.func16, Tryz.ntmps16
    go_wp2_with (go_at_call 14; refine HV.out.mono ?_)
    clear HV
    rintro e W1 ⟨rfl, hb1⟩
    have z1 := hb1.size
    have hN1 := (hb1.block w.heap.size (by omega)).trans hN
    have hP1' : Boxed W1 (w.heap.size + 1) 30 (.slice none 0 0) := (hb1.block _ (by omega)).trans hP1
    have hP2' : Boxed W1 (w.heap.size + 1 + 1) 35 (.int .i64 0) := (hb1.block _ (by omega)).trans hP2
    have x0 := cells_at hN1 0 _ rfl
    have x1 := cells_at hN1 1 _ rfl
    have x2 := cells_at hN1 2 _ rfl
    have x3 := cells_at hN1 3 _ rfl
    have p1 := hP1'.cell
    have p2 := hP2'.cell
    have q1 := hP1'.frozen
    have q2 := hP2'.frozen
    have hBW := hb0.trans (hb1.mono hb0.size)
    have HG := Lib.hid (ground_any t _ _ _ _ W1 ((ht0.below hBW).mono hBW.size) hdep)
    have HB1 := Lib.hid hBW
    have HHP1 := Lib.hid hP1'
    have HHP2 := Lib.hid hP2'
    have HHN := Lib.hid hN1
    clear hb1 hBW hN1 hN hb0 hP1 hP2 hP1' hP2'
    cases hg : t.groundB
    · rw [hg] at HG
      have HX := Lib.hid (show (t.validB && t.groundB) = false by rw [hg, Bool.and_false])
      clear hg
      go_wp2_with (go_at_call 15; refine HG.out.mono ?_)
      clear HG
      rintro e W2 ⟨rfl, hb2⟩
      have z2 := hb2.size
      have hBW2 := HB1.out.trans (hb2.mono HB1.out.size)
      have zw := HB1.out.size
      have hN2 := (hb2.block w.heap.size (by omega)).trans HHN.out
      have hP1'' : Boxed W2 (w.heap.size + 1) 30 (.slice none 0 0) := (hb2.block _ (by omega)).trans HHP1.out
      have hP2'' : Boxed W2 (w.heap.size + 1 + 1) 35 (.int .i64 0) := (hb2.block _ (by omega)).trans HHP2.out
      have x0 := cells_at hN2 0 _ rfl
      have x1 := cells_at hN2 1 _ rfl
      have x2 := cells_at hN2 2 _ rfl
      have x3 := cells_at hN2 3 _ rfl
      have p1 := hP1''.cell
      have p2 := hP2''.cell
      have q1 := hP1''.frozen
      have q2 := hP2''.frozen
      have HP1 := Lib.hid hP1''
      have HP2 := Lib.hid hP2''
      have HB2 := Lib.hid hBW2
      clear hb2 hBW2 hN2 hP1'' hP2''
      go_wp2
      have e1 := (HP1.out.set (.slice none 0 0)).cell
      have e2 := (two_set HP1.out HP2.out (.slice none 0 0) (.int .i64 2)).2.cell
      have e3 := (two_set HP1.out HP2.out (.slice none 0 0) (.int .i64 2)).1.cell
      refine ⟨.tuple #[.slice none 0 0, .int .i64 2], by simp [results, Tryz.f16, go_sem, e2, e3], ?_⟩
      exact ⟨_, _, rfl, (HB2.out.setCell (p := ⟨w.heap.size + 1, 0, none⟩) (by simp) _).setCell (p := ⟨w.heap.size + 1 + 1, 0, none⟩) (by simp; omega) _, .inl ⟨HX.out, rfl, rfl⟩⟩
    · rw [hg] at HG
      have HX := Lib.hid (show (t.validB && t.groundB) = true by rw [hg, HVV.out]; rfl)
      clear hg
      go_wp2_with (go_at_call 15; refine HG.out.mono ?_)
      clear HG
      rintro e W2 ⟨rfl, hb2⟩
      have z2 := hb2.size
      have hBW2 := HB1.out.trans (hb2.mono HB1.out.size)
      have zw := HB1.out.size
      have hN2 := (hb2.block w.heap.size (by omega)).trans HHN.out
      have hP1'' : Boxed W2 (w.heap.size + 1) 30 (.slice none 0 0) := (hb2.block _ (by omega)).trans HHP1.out
      have hP2'' : Boxed W2 (w.heap.size + 1 + 1) 35 (.int .i64 0) := (hb2.block _ (by omega)).trans HHP2.out
      have x0 := cells_at hN2 0 _ rfl
      have x1 := cells_at hN2 1 _ rfl
      have x2 := cells_at hN2 2 _ rfl
      have x3 := cells_at hN2 3 _ rfl
      have p1 := hP1''.cell
      have p2 := hP2''.cell
      have q1 := hP1''.frozen
      have q2 := hP2''.frozen
      have HP1 := Lib.hid hP1''
      have HP2 := Lib.hid hP2''
      have HE := Lib.hid (expand_any t _ _ _ _ W2 ((ht0.below hBW2).mono hBW2.size) HW.out.1)
      have HB2 := Lib.hid hBW2
      have HN2 := Lib.hid hN2
      clear hb2 hBW2 hN2 hP1'' hP2''
      go_wp2_with (go_at_call 39; refine HE.out.mono ?_)
      clear HE
      rintro e W3 (⟨ts, v, r1, rfl, r3, r4⟩ | ⟨r1, rfl, r4⟩)
      · have hts := exp_le r1
        have hsm := exp_small t HW.out.2 ts r1
        obtain ⟨va, vn, vc, rfl⟩ := r3.slice
        have z3 := r4.size
        have hvn : vn = ts.length := by
          obtain ⟨_, ho, _⟩ := r3
          rcases ho.2 with ⟨e, h0⟩ | ⟨_, _, _, e, _⟩
          · cases e; exact h0.symm
          · cases e; rfl
        subst hvn
        have hP1f : Boxed W3 (w.heap.size + 1) 30 (.slice none 0 0) := (r4.block _ (by omega)).trans HP1.out
        have hP2f : Boxed W3 (w.heap.size + 1 + 1) 35 (.int .i64 0) := (r4.block _ (by omega)).trans HP2.out
        have HBf := HB2.out.trans (r4.mono HB2.out.size)
        have zW2 := HB2.out.size
        have e1 := hP1f.cell
        have f1 := hP1f.frozen
        have hX0 : XL W2.heap.size w.heap.size w (.slice va ts.length vc) ts (W3.setCell ⟨w.heap.size + 1, 0, none⟩ (.slice va ts.length vc)) :=
          ⟨r3.setLow (by omega), hP1f.set _, hP2f.other (by omega) _, HBf.setCell (p := ⟨w.heap.size + 1, 0, none⟩) (by simp) _, by simpa [World.setCell] using z3⟩
        obtain ⟨W4, hW4⟩ : ∃ W4, W3.setCell ⟨w.heap.size + 1, 0, none⟩ (.slice va ts.length vc) = W4 := ⟨_, rfl⟩
        rw [hW4] at hX0
        have e4 := hX0.2.1.cell
        have HX0 := Lib.hid hX0
        have HSM := Lib.hid hsm
        clear hX0 hsm r3 r4 hP1f hP2f HBf
        go_wp2
        go_loopw [19] (fun i wl => ∃ j : Nat, j ≤ ts.length ∧ i = .int .i64 j ∧ XL W2.heap.size w.heap.size w (.slice va ts.length vc) ts wl) (fun i _ => ts.length - (intOf i).toNat)
        case atStart => exact ⟨0, Nat.zero_le _, rfl, HX0.out⟩
        case round =>
          obtain ⟨j, hj, rfl, hVl, hb1, hb2, hBl, hBs⟩ := hrel
          have v1 := hb1.cell
          by_cases hlt : j < ts.length
          · obtain ⟨xs, hO, hH, _⟩ := hVl
            obtain ⟨g, hga⟩ : ∃ g, va = some ⟨g, 0, none⟩ := by
              rcases hO.2 with ⟨e, h0⟩ | ⟨g, _, _, e, _⟩
              · omega
              · cases e; exact ⟨g, rfl⟩
            subst hga
            obtain ⟨d0, d1, d2, d3, m0, m1, m2, m3, hin⟩ := hH.at j hlt
            have hS8 := HSM.out _ (List.getElem_mem hlt)
            have g0 := (hO.cellAt (j * 4) (by omega)).trans m0
            have g1 := (hO.cellAt (j * 4 + 1) (by omega)).trans m1
            have g2 := (hO.cellAt (j * 4 + 2) (by omega)).trans m2
            have g3 := (hO.cellAt (j * 4 + 3) (by omega)).trans m3
            obtain ⟨u, hq⟩ : ∃ u, ts[j] = u := ⟨_, rfl⟩
            have hq0 := hq
            rw [hq] at hin hS8
            obtain ⟨k', n', s', as'⟩ := u
            have hin0 := hin
            simp only [IsTmIn] at hin
            obtain ⟨rfl, _, rfl, _, rfl, _, a', cap', rfl, _, _⟩ := hin
            have HIN := Lib.hid hin0
            have HS8 := Lib.hid hS8
            have HO := Lib.hid hO
            have HH := Lib.hid hH
            have HQ := Lib.hid hq0
            have HBL := Lib.hid hBl
            have HB1' := Lib.hid hb1
            have HB2' := Lib.hid hb2
            have zL := hBl.size
            have zg := hO.lt g rfl
            have zP1 := hb1.lt
            have hA : Below wr.heap.size wr (wr.alloc (.cells #[.int .u8 k', .int .i64 n', .string s', .slice a' as'.length cap'] 32)) := (Below.refl _ wr).alloc (Nat.le_refl _) _
            clear m0 m1 m2 m3 hq hq0 hin0 hS8 hO hH hBl hb1 hb2
            have i1 : (0 : Int) ≤ (j : Int) := by omega
            have i2 : (j : Int) < (ts.length : Int) := by omega
            go_wp2
            refine wp_region_grow_tail (by kernel_rfl) 4 (FnD wr.heap.size (.slice (some ⟨g, 0, none⟩) ts.length vc) j (.agg #[.int .u8 k', .int .i64 n', .string s', .slice a' as'.length cap']) (.mk k' n' s' as')) (FnD_grow _ _ _ _ _) (by kernel_rfl) (by kernel_rfl) (steps_to ⟨?_, ?_, ?_, ?_, trivial⟩) ?_
            · intro a2 wx hb2 hd hs ho2 hp
              refine ⟨rfl, ?_⟩
              have q : a2.tmps.getD 2 undef = _ := (ho2 2 (by kernel_rfl)).trans rfl
              have y := ((hA.trans (hb2.mono hA.size)).cell (p := ⟨w.heap.size + 1, 0, none⟩) (by show w.heap.size + 1 < _; omega)).trans v1
              unfold Oper.wp
              go_simp
              exact Stepped.at rfl hd (Below.refl _ _) rfl
            · intro a2 wx hb2 hd hs ho2 hp
              refine ⟨rfl, ?_⟩
              have q : a2.tmps.getD 4 undef = .int .i64 j := (ho2 4 (by kernel_rfl)).trans rfl
              unfold Oper.wp
              go_simp
              exact Stepped.at rfl hd (Below.refl _ _) rfl
            · intro a2 wx hb2 hd hs ho2 hp
              refine ⟨rfl, ?_⟩
              have q : a2.tmps.getD 5 undef = .pointer (some ⟨wr.heap.size, 0, none⟩) := (ho2 5 (by kernel_rfl)).trans rfl
              have hnb := (hb2.block wr.heap.size (by simp)).trans (World.alloc_heap_new wr (.cells #[.int .u8 k', .int .i64 n', .string s', .slice a' as'.length cap'] 32))
              have y0 := cells_at hnb 0 _ rfl
              have y1 := cells_at hnb 1 _ rfl
              have y2 := cells_at hnb 2 _ rfl
              have y3 := cells_at hnb 3 _ rfl
              unfold Oper.wp
              go_simp
              exact Stepped.at (v := .agg #[.int .u8 k', .int .i64 n', .string s', .slice a' as'.length cap']) rfl hd (Below.refl _ _) rfl
            · intro a2 wx hb2 hd hs ho2 hp
              refine ⟨rfl, ?_⟩
              have q : a2.tmps.getD 26 undef = .agg #[.int .u8 k', .int .i64 n', .string s', .slice a' as'.length cap'] := facts_at hp 2 26 (by kernel_rfl)
              have hbx := hA.trans (hb2.mono hA.size)
              have HD := Lib.hid (detach_any (.mk k' n' s' as') _ _ _ _ wx ((HIN.out.isTm (B := wx.heap.size) (fun b hf => by have := hf.2.1; have := hbx.size; omega) |> fun h => (HIN.out.keep (ok' := (· < wr.heap.size)) (w' := wx) (fun b hf => ⟨hf.2.1, hbx.block b hf.2.1⟩)).isTm (fun b hb => by have := hbx.size; have hb : b < wr.heap.size := hb; omega))) HS8.out)
              unfold Oper.wp
              go_simp
              refine HD.out.mono ?_
              rintro e w2 ⟨y0, y1, y2, y3, rfl, hi2, hb4⟩
              have hi3 := hi2
              simp only [IsTmIn] at hi3
              obtain ⟨rfl, _, rfl, _, rfl, _, a2', cap2, rfl, _, _⟩ := hi3
              exact Stepped.at (v := .agg #[.int .u8 k', .int .i64 n', .string s', .slice a2' as'.length cap2]) rfl hd hb4 ⟨_, _, _, _, _, _, rfl, hi2.keep fun b hf => ⟨⟨by have := hbx.size; omega, hf.2⟩, rfl⟩⟩
            intro a2 wx hbx hd hs ho2 hf
            have hbw := hA.trans (hbx.mono hA.size)
            have k24 : a2.tmps.getD 24 undef = .slice (some ⟨g, 0, none⟩) ts.length vc := facts_to hf 0 24 (by decide) (by kernel_rfl)
            have k25 : a2.tmps.getD 25 undef = .int .i64 j := facts_to hf 1 25 (by decide) (by kernel_rfl)
            obtain ⟨dk, dn, ds, da, dm, dc, k27, hdi⟩ : FnD wr.heap.size (.slice (some ⟨g, 0, none⟩) ts.length vc) j (.agg #[.int .u8 k', .int .i64 n', .string s', .slice a' as'.length cap']) (.mk k' n' s' as') 3 (a2.tmps.getD 27 undef) wx := facts_to hf 3 27 (by decide) (by kernel_rfl)
            obtain ⟨T, D⟩ := a2
            simp only at hd hs k24 k25 k27 ho2
            subst hd
            have hE2 := slots_all T 31 (hs.trans rfl)
            simp only [List.range, List.range.loop, List.map, k24, k25, k27, ho2 0 (by kernel_rfl), ho2 1 (by kernel_rfl), ho2 2 (by kernel_rfl), ho2 3 (by kernel_rfl), ho2 4 (by kernel_rfl), ho2 5 (by kernel_rfl), ho2 6 (by kernel_rfl), ho2 7 (by kernel_rfl), ho2 8 (by kernel_rfl), ho2 9 (by kernel_rfl), ho2 10 (by kernel_rfl), ho2 11 (by kernel_rfl), ho2 12 (by kernel_rfl), ho2 13 (by kernel_rfl), ho2 14 (by kernel_rfl), ho2 15 (by kernel_rfl), ho2 16 (by kernel_rfl), ho2 17 (by kernel_rfl), ho2 18 (by kernel_rfl), ho2 19 (by kernel_rfl), ho2 20 (by kernel_rfl), ho2 21 (by kernel_rfl), ho2 22 (by kernel_rfl), ho2 23 (by kernel_rfl), ho2 28 (by kernel_rfl), ho2 29 (by kernel_rfl), ho2 30 (by kernel_rfl)] at hE2
            rw [hE2]
            clear hE2 hf k24 k25 k27 ho2 hs
            have hOx := own_grown HO.out hbw
            have hxl : xs.length = ts.length * 4 := hOx.1
            have c0 := hOx.cellAt (j * 4) (by omega)
            have c1 := hOx.cellAt (j * 4 + 1) (by omega)
            have c2 := hOx.cellAt (j * 4 + 2) (by omega)
            have c3 := hOx.cellAt (j * 4 + 3) (by omega)
            rw [List.getElem?_eq_getElem (by omega)] at c0 c1 c2 c3
            have f0 := hOx.frozenAt (j * 4)
            have f1 := hOx.frozenAt (j * 4 + 1)
            have f2 := hOx.frozenAt (j * 4 + 2)
            have f3 := hOx.frozenAt (j * 4 + 3)
            have HDI := Lib.hid hdi
            have HBW := Lib.hid hbw
            have HOX := Lib.hid hOx
            clear hdi hbx hOx hbw
            go_wp2
            have zx := HBW.out.size
            have hbg : ∀ b, b ≠ g → ((((wx.setCell ⟨g, j * 4, none⟩ (.int .u8 dk)).setCell ⟨g, j * 4 + 1, none⟩ (.int .i64 dn)).setCell ⟨g, j * 4 + 2, none⟩ (.string ds)).setCell ⟨g, j * 4 + 3, none⟩ (.slice da dm dc)).heap[b]? = wx.heap[b]? := fun b hb =>
              (Below.heap_setCell _ _ _ b (by simpa using hb)).trans ((Below.heap_setCell _ _ _ b (by simpa using hb)).trans ((Below.heap_setCell _ _ _ b (by simpa using hb)).trans (Below.heap_setCell _ _ _ b (by simpa using hb))))
            have hzz : ((((wx.setCell ⟨g, j * 4, none⟩ (.int .u8 dk)).setCell ⟨g, j * 4 + 1, none⟩ (.int .i64 dn)).setCell ⟨g, j * 4 + 2, none⟩ (.string ds)).setCell ⟨g, j * 4 + 3, none⟩ (.slice da dm dc)).heap.size = wx.heap.size := by simp [World.setCell]
            refine ⟨⟨j + 1, by omega, by simp, ⟨_, ((((HOX.out.stored (j * 4) (.int .u8 dk)).1.stored (j * 4 + 1) (.int .i64 dn)).1.stored (j * 4 + 2) (.string ds)).1.stored (j * 4 + 3) (.slice da dm dc)).1, ?_, fun g' e => by cases e⟩, ?_, ?_, ?_, ?_⟩, by simp [intOf]; omega⟩
            · refine HoldL.set (HH.out.keep fun b hf => ⟨⟨hf.1, by rw [hzz]; have := hf.2.1; omega, hf.2.2⟩, (hbg b fun e => hf.2.2.1 (by rw [e]; rfl)).trans (HBW.out.block b hf.2.1)⟩) j hlt ?_
              rw [HQ.out]
              refine HDI.out.keep fun b hf => ?_
              have hb1 := hf.1
              refine ⟨⟨by omega, by rw [hzz]; exact hf.2, fun e => ?_, by simp⟩, hbg b (by omega)⟩
              have e : g = b := by simpa [Value.ownBlock] using e
              omega
            · exact boxed_off (boxed_off (boxed_off (boxed_off ((HBW.out.block _ (by omega)).trans HB1'.out) (by omega) _) (by omega) _) (by omega) _) (by omega) _
            · exact boxed_off (boxed_off (boxed_off (boxed_off ((HBW.out.block _ (by omega)).trans HB2'.out) (by omega) _) (by omega) _) (by omega) _) (by omega) _
            · exact ((((HBL.out.trans (HBW.out.mono zL)).setCell (p := ⟨g, j * 4, none⟩) (by show w.heap.size ≤ g; omega) _).setCell (p := ⟨g, j * 4 + 1, none⟩) (by show w.heap.size ≤ g; omega) _).setCell (p := ⟨g, j * 4 + 2, none⟩) (by show w.heap.size ≤ g; omega) _).setCell (p := ⟨g, j * 4 + 3, none⟩) (by show w.heap.size ≤ g; omega) _
            · rw [hzz]; omega
          · have hje : j = ts.length := by omega
            subst hje
            have q1 := hb1.frozen
            have v2 := hb2.cell
            have q2 := hb2.frozen
            have HVl := Lib.hid hVl
            have HB1' := Lib.hid hb1
            have HB2' := Lib.hid hb2
            have HBL := Lib.hid hBl
            have e1' := (hb1.set (.slice va ts.length vc)).cell
            have e2' := (two_set hb1 hb2 (.slice va ts.length vc) (.int .i64 0)).2.cell
            have e3' := (two_set hb1 hb2 (.slice va ts.length vc) (.int .i64 0)).1.cell
            have o2 := hb2.other (show w.heap.size + 1 + 1 ≠ w.heap.size + 1 by omega) (.slice va ts.length vc)
            have o2c := o2.cell
            have o2f := o2.frozen
            clear hVl hb1 hb2 hBl o2
            go_wp2
            refine leaves_cons (f := 38) (args := #[.pointer (some ⟨w.heap.size + 1, 0, none⟩), .pointer (some ⟨w.heap.size + 1 + 1, 0, none⟩)]) (by simp) (by simp [go_sem]) ?_
            refine (catch_idle _ _ _).mono ?_
            rintro e u' w'' ⟨rfl, rfl, rfl⟩
            refine ⟨.tuple #[.slice va ts.length vc, .int .i64 0], by simp [results, Tryz.f16, go_sem, e2', e3'], ?_⟩
            exact ⟨_, _, rfl, (HBL.out.setCell (p := ⟨w.heap.size + 1, 0, none⟩) (by simp) _).setCell (p := ⟨w.heap.size + 1 + 1, 0, none⟩) (by simp; omega) _, .inr (.inr ⟨HX.out, ts, r1, rfl, ((HVl.out.setLow (by omega)).setLow (by omega)).lower (by omega)⟩)⟩
      · have z3 := r4.size
        have hP1f : Boxed W3 (w.heap.size + 1) 30 (.slice none 0 0) := (r4.block _ (by omega)).trans HP1.out
        have hP2f : Boxed W3 (w.heap.size + 1 + 1) 35 (.int .i64 0) := (r4.block _ (by omega)).trans HP2.out
        have e1 := (hP1f.set (.slice none 0 0)).cell
        have e2 := (two_set hP1f hP2f (.slice none 0 0) (.int .i64 5)).2.cell
        have e3 := (two_set hP1f hP2f (.slice none 0 0) (.int .i64 5)).1.cell
        have HBf := HB2.out.trans (r4.mono HB2.out.size)
        refine leaves_cons (f := 38) (args := #[.pointer (some ⟨w.heap.size + 1, 0, none⟩), .pointer (some ⟨w.heap.size + 1 + 1, 0, none⟩)]) (by simp) (by simp [go_sem]) ?_
        refine (catch_boom _ _ (by omega) none 0 0 0 W3 hP1f hP2f).mono ?_
        rintro e u' w'' ⟨rfl, rfl, rfl⟩
        refine ⟨.tuple #[.slice none 0 0, .int .i64 5], by simp [results, Tryz.f16, go_sem, e2, e3], ?_⟩
        exact ⟨_, _, rfl, (HBf.setCell (p := ⟨w.heap.size + 1, 0, none⟩) (by simp) _).setCell (p := ⟨w.heap.size + 1 + 1, 0, none⟩) (by simp; omega) _, .inr (.inl ⟨HX.out, r1, rfl, rfl⟩)⟩
end Go.Proofs.YtnobmffgchlijaaGreatDoor
