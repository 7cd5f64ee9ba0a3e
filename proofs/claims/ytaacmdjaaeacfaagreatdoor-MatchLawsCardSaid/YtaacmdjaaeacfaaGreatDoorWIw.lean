/- MatchLaws: its walk. -/
import Derived.Test.YtaacmdjaaeacfaaGreatDoorWn
import Derived.Test.YtaacmdjaaeacfaaGreatDoorWIv
namespace Go.Proofs.YtaacmdjaaeacfaaGreatDoor
open Go.RowKit Go.Shelf
attribute [local go_sem] Oper.semAt_some

mutual
theorem applyT_count {b : Bd} {D : Nat} (hD : 1 ≤ D) (hb : ∀ x ∈ b, x.2.count ≤ D) : ∀ t : Tm, (applyT b t).count ≤ t.count * D
  | .mk k n s us => by
    have ih := applyTL_count hD hb us
    simp only [applyT]
    have e : (Tm.countL us + 1) * D = Tm.countL us * D + D := Nat.succ_mul _ _
    split
    · split
      · rename_i v hv
        obtain ⟨x, hx, rfl⟩ := lookB_mem hv
        have := hb x hx
        simp only [Tm.count]
        rw [e]
        exact Nat.le_trans this (Nat.le_add_left _ _)
      · simp only [Tm.count]
        rw [e]
        omega
    · simp only [Tm.count]
      rw [e]
      have := Nat.le_mul_of_pos_right (Tm.countL us) hD
      omega
theorem applyTL_count {b : Bd} {D : Nat} (hD : 1 ≤ D) (hb : ∀ x ∈ b, x.2.count ≤ D) : ∀ ts : List Tm, Tm.countL (applyTL b ts) ≤ Tm.countL ts * D
  | [] => by simp [applyTL, Tm.countL]
  | t :: ts => by
    have h1 := applyT_count hD hb t
    have h2 := applyTL_count hD hb ts
    simp only [applyTL, Tm.countL]
    rw [Nat.add_mul]
    omega
end
theorem four {w w' : World} {g : Nat} {c0 c1 c2 c3 : Value} {ty : TypeId} {z : Nat × Nat} (hb : w'.heap[g]? = w.heap[g]?) (h : w.heap[g]? = some (.cells #[c0, c1, c2, c3] ty z)) : w'.cell? ⟨g, 0, none⟩ = some c0 ∧ w'.cell? ⟨g, 1, none⟩ = some c1 ∧ w'.cell? ⟨g, 2, none⟩ = some c2 ∧ w'.cell? ⟨g, 3, none⟩ = some c3 :=
  have hq := hb.trans h
  ⟨cells_at hq 0 _ rfl, cells_at hq 1 _ rfl, cells_at hq 2 _ rfl, cells_at hq 3 _ rfl⟩
theorem bind_post {r : Option Bd} {w w' : World} {e : Ending} (h : MatchPost r w e w') : ∃ a n c, e = .returned (.tuple #[.slice a n c, .bool r.isSome]) ∧ Below w.heap.size w w' ∧ ∀ x, r = some x → BdV w' (.slice a n c) x ∧ n = x.length := by
  obtain ⟨hb, h⟩ := h
  cases r with
  | none => exact ⟨none, 0, 0, h, hb, fun x hx => by cases hx⟩
  | some c =>
    obtain ⟨v', rfl, hv⟩ := h
    have hv0 := hv
    obtain ⟨a, k, rfl, _⟩ := hv
    exact ⟨a, c.length, k, rfl, hb, fun x hx => by cases hx; exact ⟨hv0, rfl⟩⟩
def FL6 (U PV BV : Value) (u : Tm) (VB : Bool) : Facts := fun i v w => match i with
  | 0 => v = U
  | 1 => v = BV
  | 2 => ∃ z0 z1 z2 z3, v = .agg #[z0, z1, z2, z3] ∧ IsTm w.heap.size w z0 z1 z2 z3 u
  | 3 => v = U
  | 4 => v = .bool true
  | 5 => v = .bool false
  | 6 => v = .bool false
  | 7 => v = BV
  | 8 => v = .bool VB
  | 9 => v = .bool (!VB)
  | 10 => v = .bool (!VB)
  | 11 => VB = false → v = U
  | 12 => VB = false → v = PV
  | 13 => VB = false → v = .bool true
  | 14 => VB = false → v = .bool false
  | 15 => v = .bool false
  | 16 => v = .bool false
  | _ => True
theorem FL6_grow {U PV BV : Value} {u : Tm} {VB : Bool} (i : Nat) (v : Value) (w w' : World) (h : FL6 U PV BV u VB i v w) (hb : Below w.heap.size w w') : FL6 U PV BV u VB i v w' := by
  by_cases hi : i = 2
  · subst hi
    obtain ⟨z0, z1, z2, z3, e, h⟩ := h
    exact ⟨z0, z1, z2, z3, e, (h.below hb).mono hb.size⟩
  · unfold FL6 at *
    split at h <;> first | exact h | exact absurd rfl hi
theorem laws_signs (z : Int) : (testB 1 z = false ∧ testB 3 z = true ∧ testB 5 z = false ∧ testB 2 z = true ∧ testB 4 z = true ∧ testB 6 z = false ∧ testB 5 (-z) = true) ∨ (testB 1 z = true ∧ testB 3 z = false ∧ testB 5 z = false ∧ testB 2 z = false ∧ testB 4 z = true ∧ testB 6 z = true ∧ testB 5 (-z) = false) ∨ (testB 1 z = false ∧ testB 3 z = false ∧ testB 5 z = true ∧ testB 2 z = true ∧ testB 4 z = false ∧ testB 6 z = true ∧ testB 5 (-z) = false) := by
  rcases Int.lt_trichotomy z 0 with h | h | h
  · refine Or.inl ⟨?_, ?_, ?_, ?_, ?_, ?_, ?_⟩ <;> simp [testB] <;> omega
  · subst h
    exact Or.inr (Or.inl ⟨rfl, rfl, rfl, rfl, rfl, rfl, rfl⟩)
  · refine Or.inr (Or.inr ⟨?_, ?_, ?_, ?_, ?_, ?_, ?_⟩) <;> simp [testB] <;> omega
def iwDescs10 (ba : Option Addr) (lb bc _n0 _n12 : Nat) (nm : ByteArray) (OK OLD VB VN VV EQ : Bool) (kv nv kg ng : Int) (sv sg : ByteArray) (av ag : Option Addr) (lv cv lg cg : Nat) : List Du := [.val (.bool (OK)), .val (.slice ba lb bc), .val (.bool (VB)), .val (.bool (VB)), .val (cond (gon (true) (VB) true) (.string nm) undef), .val (cond (gon (true) (VB) true) (.bool (VN)) undef), .val (.bool ((VB && VN))), .val (.bool ((VB && VN))), .val (cond (gon (true) ((VB && VN)) true) (.agg #[.int .u8 kv, .int .i64 nv, .string sv, .slice av lv cv]) undef), .val (cond (gon (true) ((VB && VN)) true) (.bool (VV)) undef), .val (.bool (((VB && VN) && VV))), .val (.bool (((VB && VN) && VV))), .val (cond (gon (true) (((VB && VN) && VV)) true) (.bool (OLD)) undef), .val (cond (gon (true) (((VB && VN) && VV)) true) (.bool (!(OLD))) undef), .val (cond (gon (true) (((VB && VN) && VV)) true) (.bool (!(OLD))) undef), .val (cond (gon (gon (true) (((VB && VN) && VV)) true) (!(OLD)) false) (.agg #[.int .u8 kg, .int .i64 ng, .string sg, .slice ag lg cg]) undef), .val (cond (gon (gon (true) (((VB && VN) && VV)) true) (!(OLD)) false) (.agg #[.int .u8 kv, .int .i64 nv, .string sv, .slice av lv cv]) undef), .val (cond (gon (gon (true) (((VB && VN) && VV)) true) (!(OLD)) false) (.bool (EQ)) undef), .val (cond (gon (true) (((VB && VN) && VV)) true) (.bool ((!(OLD) || EQ))) undef), .val (.bool ((((VB && VN) && VV) && (!(OLD) || EQ)))), .val (.bool ((OK != (((VB && VN) && VV) && (!(OLD) || EQ)))))]
def iwDescs19 (_n0 _n1 : Nat) (Z _Y : Int) (kp np kv nv : Int) (sp sv : ByteArray) (ap av : Option Addr) (lp cp lv cv : Nat) : List Du := [.val (.agg #[.int .u8 kp, .int .i64 np, .string sp, .slice ap lp cp]), .val (.agg #[.int .u8 kv, .int .i64 nv, .string sv, .slice av lv cv]), .val (.bool (testB 1 Z)), .val (.agg #[.int .u8 kp, .int .i64 np, .string sp, .slice ap lp cp]), .val (.agg #[.int .u8 kv, .int .i64 nv, .string sv, .slice av lv cv]), .val (.bool (testB 3 Z)), .val (.agg #[.int .u8 kp, .int .i64 np, .string sp, .slice ap lp cp]), .val (.agg #[.int .u8 kv, .int .i64 nv, .string sv, .slice av lv cv]), .val (.bool (testB 5 Z)), .val (.bool (testB 1 Z)), .val (.bool (testB 3 Z)), .val (.bool (testB 5 Z))]

set_option maxRecDepth 100000 in
set_option maxHeartbeats 40000000 in
theorem laws_walk (p v : Tm) (b : Bd) (nm : ByteArray) (c0 c1 c2 c3 d0 d1 d2 d3 bv : Value) (w : World) (hp : IsTm w.heap.size w c0 c1 c2 c3 p) (hv : IsTm w.heap.size w d0 d1 d2 d3 v) (hb : BdV w bv b) (hnm : nm.size ≤ maxLen) :
    Calls Tryz.prog 6 #[.agg #[c0, c1, c2, c3], .agg #[d0, d1, d2, d3], bv, .string nm] w fun e w' => e = .returned (.bool true) ∧ Below w.heap.size w w' := by
  obtain ⟨kp, np, sp, ap, lp, cp, rfl, rfl, rfl, rfl⟩ := isTm_cells hp
  obtain ⟨kv, nv, sv, av, lv, cv, rfl, rfl, rfl, rfl⟩ := isTm_cells hv
  obtain ⟨W0, hW0⟩ : ∃ W0, (w.alloc (.cells #[.int .u8 kp, .int .i64 np, .string sp, .slice ap lp cp] 24)).alloc (.cells #[.int .u8 kv, .int .i64 nv, .string sv, .slice av lv cv] 24) = W0 := ⟨_, rfl⟩
  have hb0 : Below w.heap.size w W0 := by rw [← hW0]; exact ((Below.refl _ w).alloc (Nat.le_refl _) _).alloc (by simp) _
  have hq3 : W0.heap[w.heap.size]? = some (.cells #[.int .u8 kp, .int .i64 np, .string sp, .slice ap lp cp] 24 (0, 0)) := by
    rw [← hW0]; exact (Below.heap_alloc _ _ _ (by simp)).trans (World.alloc_heap_new _ _)
  have hq4 : W0.heap[w.heap.size + 1]? = some (.cells #[.int .u8 kv, .int .i64 nv, .string sv, .slice av lv cv] 24 (0, 0)) := by
    rw [← hW0]; have := World.alloc_heap_new (w.alloc (.cells #[.int .u8 kp, .int .i64 np, .string sp, .slice ap lp cp] 24)) (.cells #[.int .u8 kv, .int .i64 nv, .string sv, .slice av lv cv] 24); rwa [World.size_alloc] at this
  have HTP := Lib.hid (fun (W : World) (hW : Below W0.heap.size W0 W) => show IsTm W.heap.size W _ _ _ _ p from (hp.below (hb0.trans (hW.mono hb0.size))).mono (Nat.le_trans hb0.size hW.size))
  have HTV := Lib.hid (fun (W : World) (hW : Below W0.heap.size W0 W) => show IsTm W.heap.size W _ _ _ _ v from (hv.below (hb0.trans (hW.mono hb0.size))).mono (Nat.le_trans hb0.size hW.size))
  have HBV := Lib.hid (fun (W : World) (hW : Below W0.heap.size W0 W) => hb.grow (hb0.trans (hW.mono hb0.size)))
  have HSB := Lib.hid hb.names
  have HQ3 := Lib.hid hq3
  have HQ4 := Lib.hid hq4
  have HB0 := Lib.hid hb0
  obtain ⟨ba, bn, bc, rfl⟩ : ∃ a n c, bv = .slice a n c := by obtain ⟨a, c, e, _⟩ := hb; exact ⟨_, _, _, e⟩
  obtain rfl : bn = b.length := by obtain ⟨a, c, e, _⟩ := hb; simp only [Value.slice.injEq] at e; exact e.2.1
  obtain ⟨lb, hlb⟩ : ∃ lb, b.length = lb := ⟨_, rfl⟩
  rw [hlb] at HBV HSB ⊢
  have HLB := Lib.hid hlb
  have HGD := Lib.hid (And.intro (good_of hp) (good_of hv))
  have HNM := Lib.hid hnm
  have FX := Lib.hid (fun (W : World) (hW : Below W0.heap.size W0 W) => four (hW.block _ (gL HQ3.out)) HQ3.out)
  have FY := Lib.hid (fun (W : World) (hW : Below W0.heap.size W0 W) => four (hW.block _ (gL HQ4.out)) HQ4.out)
  clear hp hv hb hq3 hq4 hb0 hlb hnm
  go_enter Tryz.func6, Tryz.ntmps6
  refine wp_seq_k fun K hK => ?_
  have HK := Lib.hid hK
  clear hK
  go_wp2
  refine HK.out _ _ ?_
  clear HK
  refine wp_seq_k fun K hK => ?_
  have HK := Lib.hid hK
  clear hK
  go_wp2_with (go_at_call 7; refine (awake07_any W0).mono ?_; rintro e V1 ⟨rfl, hb1⟩; have HB1 := Lib.hid hb1; clear hb1)
  refine HK.out _ _ ?_
  clear HK
  refine wp_seq_k fun K hK => ?_
  have HK := Lib.hid hK
  clear hK
  obtain ⟨x0, x1, x2, x3⟩ := FX.out _ HB1.out
  obtain ⟨y0, y1, y2, y3⟩ := FY.out _ HB1.out
  obtain ⟨S1, hS1, hrS, hbS⟩ : ∃ S1, V1.alloc (.cells #[.int .u8 kp, .int .i64 np, .string sp, .slice ap lp cp, .int .u8 kv, .int .i64 nv, .string sv, .slice av lv cv] 24) = S1 ∧ S1.heap[V1.heap.size]? = some (.cells #[.int .u8 kp, .int .i64 np, .string sp, .slice ap lp cp, .int .u8 kv, .int .i64 nv, .string sv, .slice av lv cv] 24 (0, 0)) ∧ Below V1.heap.size V1 S1 := ⟨_, rfl, World.alloc_heap_new _ _, bR.alloc (Nat.le_refl _) _⟩
  have HS1 := Lib.hid hS1
  have HRS := Lib.hid hrS
  have HBS := Lib.hid (HB1.out.trans (hbS.mono HB1.out.size))
  clear hS1 hrS hbS
  go_wp2_with fail
  rw [HS1.out]
  refine (small07_any b [p, v] _ (some ⟨V1.heap.size, 0, none⟩) 2 S1 (HBV.out S1 HBS.out) (by unfold maxLen; simp) (fun _ => ⟨V1.heap.size, 0, rfl, (gL HRS.out), ?_⟩)).mono ?_
  · simp only [IsTms]
    exact ⟨_, _, _, _, cells_at HRS.out 0 _ rfl, cells_at HRS.out 1 _ rfl, cells_at HRS.out 2 _ rfl, cells_at HRS.out 3 _ rfl, HTP.out S1 HBS.out, _, _, _, _, cells_at HRS.out 4 _ rfl, cells_at HRS.out 5 _ rfl, cells_at HRS.out 6 _ rfl, cells_at HRS.out 7 _ rfl, HTV.out S1 HBS.out, trivial⟩
  rintro e V2 ⟨hb2, r, rfl, hr⟩
  have HB2 := Lib.hid (HBS.out.trans (hb2.mono HBS.out.size))
  clear hb2
  clear x0 x1 x2 x3 y0 y1 y2 y3
  cases r with
  | false =>
    clear hr
    go_wp2
    go_ret
    exact ⟨rfl, HB0.out.trans (HB2.out.mono HB0.out.size)⟩
  | true =>
  have hr := hr rfl
  have HR := Lib.hid hr
  clear hr
  by_cases hlen : 150 < lb
  · have d1 : decide ((lb : Int) > 150) = true := decide_eq_true (by omega)
    have d2 : (lb : Int) > 150 := by omega
    go_wp2
    go_ret
    exact ⟨rfl, HB0.out.trans (HB2.out.mono HB0.out.size)⟩
  have HCP : Hid (p.count ≤ 150 ∧ v.count ≤ 150 ∧ ∀ x ∈ b, x.2.count ≤ 150) := Lib.hid (by
    have := HR.out
    simp only [Tm.countL] at this
    exact ⟨by omega, by omega, fun x hx => by have := sumB_mem hx; omega⟩)
  have HLN := Lib.hid (show lb ≤ 150 by omega)
  have d1 : decide ((lb : Int) > 150) = false := decide_eq_false (by omega)
  have d2 : ¬ (lb : Int) > 150 := by omega
  clear hlen
  go_wp2
  clear d1 d2
  refine HK.out _ _ ?_
  clear HK
  refine wp_seq_k fun K hK => ?_
  have HK := Lib.hid hK
  clear hK
  obtain ⟨u, hu⟩ : ∃ u, applyT (prs b) p = u := ⟨_, rfl⟩
  have HUU := Lib.hid (show applyT (prs b) u = u by rw [← hu]; exact laws_twice b p)
  have HUN := Lib.hid (show validBd b = false → u = p from fun h => by rw [← hu]; exact laws_none h p)
  have HUC := Lib.hid (show u.count ≤ 22500 by
    rw [← hu]
    have h1 := applyT_count (b := prs b) (D := 150) (by decide) (fun x hx => HCP.out.2.2 x (prs_mem hx)) p
    have h2 := HCP.out.1
    omega)
  have HAP := Lib.hid (fun (t : Tm) (z0 z1 z2 z3 : Value) (W : World) (hW : Below W0.heap.size W0 W) (ht : IsTm W.heap.size W z0 z1 z2 z3 t) (hc : t.count ≤ 1000000) => mApply_any b (by rw [HLB.out]; have := HLN.out; omega) (fun x hx => by have := HCP.out.2.2 x hx; omega) HSB.out.2 _ t z0 z1 z2 z3 W (HBV.out W hW) ht hc)
  obtain ⟨x0, x1, x2, x3⟩ := FX.out _ HB2.out
  obtain ⟨y0, y1, y2, y3⟩ := FY.out _ HB2.out
  go_wp2_with (first
    | (go_at_call 17; have hm := HAP.out p _ _ _ _ V2 HB2.out (HTP.out V2 HB2.out) (by have := HCP.out.1; omega); rw [hu] at hm; refine hm.mono ?_; clear hm; rintro e V3 ⟨z0, z1, z2, z3, rfl, ht, hb⟩
       have ht1 : IsTm V3.heap.size V3 z0 z1 z2 z3 u := ht.isTm fun b hf => hf.2
       obtain ⟨ku, nu, su, au, lu, cu, rfl, rfl, rfl, rfl⟩ := isTm_cells ht1
       obtain ⟨U4, hU, hrU, hbU, hzU⟩ := rowTerm V3 (.int .u8 ku) (.int .i64 nu) (.string su) (.slice au lu cu)
       have HB4 := Lib.hid (HB2.out.trans ((hb.trans (hbU.mono hb.size)).mono HB2.out.size))
       have HTU := Lib.hid (fun (W : World) (hW : Below U4.heap.size U4 W) => show IsTm W.heap.size W (.int .u8 ku) (.int .i64 nu) (.string su) (.slice au lu cu) u from (((ht1.below hbU).mono hbU.size).below hW).mono hW.size)
       have HQ9 := Lib.hid hrU
       clear hb hrU hbU hzU ht ht1))
  clear x0 x1 x2 x3 y0 y1 y2 y3
  clear hU hu
  refine HK.out _ _ ?_
  clear HK
  obtain ⟨n9, hn9⟩ : ∃ n, V3.heap.size = n := ⟨_, rfl⟩
  rw [hn9] at HQ9 ⊢
  clear hn9
  obtain ⟨VB, hVB⟩ : ∃ x, validBd b = x := ⟨_, rfl⟩
  rw [hVB] at HUN
  have HVB := Lib.hid (fun (W : World) (hW : Below W0.heap.size W0 W) => show Calls Tryz.prog 10 #[.slice ba lb bc] W fun e w' => e = .returned (.bool VB) ∧ Below W.heap.size W w' from hVB ▸ validBd_any b _ W (HBV.out W hW) (fun x hx => by have := HCP.out.2.2 x hx; have := Tm.depth_le_count x.2; omega) HSB.out.2)
  have HVX := Lib.hid hVB
  clear hVB
  refine wp_seq_k fun K hK => ?_
  have HK := Lib.hid hK
  clear hK
  refine wp_seq_k fun K hK => ?_
  have HK2 := Lib.hid hK
  clear hK
  refine wp_region_grow_or (by kernel_rfl) (FL6 (.agg #[.int .u8 ku, .int .i64 nu, .string su, .slice au lu cu]) (.agg #[.int .u8 kp, .int .i64 np, .string sp, .slice ap lp cp]) (.slice ba lb bc) u VB) (fun i v w w' h hb => FL6_grow i v w w' h hb) (by kernel_rfl) (steps_or ?_) ?_
  · refine ⟨?_, ?_, ?_, ?_, ?_, ?_, ?_, ?_, ?_, ?_, ?_, ?_, ?_, ?_, ?_, ?_, ?_, trivial⟩
    · intro ac wx hb hd hs ho hp
      refine Or.inl ⟨rfl, ?_⟩
      have h9 : ac.tmps.getD 9 undef = .pointer (some ⟨n9, 0, none⟩) := (ho 9 (by kernel_rfl)).trans rfl
      obtain ⟨x0, x1, x2, x3⟩ := four (hb.block _ (gL HQ9.out)) HQ9.out
      unfold Oper.wp
      go_simp
      exact Stepped.at (v := .agg #[.int .u8 ku, .int .i64 nu, .string su, .slice au lu cu]) (by first | rfl | simp) hd bR rfl
    · intro ac wx hb hd hs ho hp
      refine Or.inl ⟨rfl, ?_⟩
      have h2 : ac.tmps.getD 2 undef = .slice ba lb bc := (ho 2 (by kernel_rfl)).trans rfl
      unfold Oper.wp
      go_simp
      exact Stepped.at (v := .slice ba lb bc) (by first | rfl | simp) hd bR rfl
    · intro ac wx hb hd hs ho hp
      refine Or.inl ⟨rfl, ?_⟩
      have h37 : ac.tmps.getD 37 undef = .agg #[.int .u8 ku, .int .i64 nu, .string su, .slice au lu cu] := facts_at hp 0 37 (by kernel_rfl)
      have h38 : ac.tmps.getD 38 undef = .slice ba lb bc := facts_at hp 1 38 (by kernel_rfl)
      unfold Oper.wp
      go_simp
      have hm := HAP.out u _ _ _ _ wx (HB4.out.trans (hb.mono HB4.out.size)) (HTU.out wx hb) (by have := HUC.out; omega)
      rw [HUU.out] at hm
      refine hm.mono ?_
      rintro e2 w2 ⟨z0, z1, z2, z3, rfl, ht2, hb2⟩
      exact Stepped.at rfl hd hb2 ⟨_, _, _, _, rfl, ht2.isTm fun b hf => hf.2⟩
    · intro ac wx hb hd hs ho hp
      refine Or.inl ⟨rfl, ?_⟩
      have h9 : ac.tmps.getD 9 undef = .pointer (some ⟨n9, 0, none⟩) := (ho 9 (by kernel_rfl)).trans rfl
      obtain ⟨x0, x1, x2, x3⟩ := four (hb.block _ (gL HQ9.out)) HQ9.out
      unfold Oper.wp
      go_simp
      exact Stepped.at (v := .agg #[.int .u8 ku, .int .i64 nu, .string su, .slice au lu cu]) (by first | rfl | simp) hd bR rfl
    · intro ac wx hb hd hs ho hp
      refine Or.inl ⟨rfl, ?_⟩
      obtain ⟨z0, z1, z2, z3, h39, hz⟩ := show ∃ z0 z1 z2 z3, ac.tmps.getD 39 undef = .agg #[z0, z1, z2, z3] ∧ IsTm wx.heap.size wx z0 z1 z2 z3 u from facts_at hp 2 39 (by kernel_rfl)
      have h40 : ac.tmps.getD 40 undef = .agg #[.int .u8 ku, .int .i64 nu, .string su, .slice au lu cu] := facts_at hp 3 40 (by kernel_rfl)
      unfold Oper.wp
      go_simp
      have hm := sameTerm_any u u _ _ _ _ _ _ _ _ wx hz (HTU.out wx hb)
      rw [(sameB_iff u u).2 rfl] at hm
      refine hm.mono ?_
      rintro e2 w2 ⟨rfl, hb2⟩
      exact Stepped.at rfl hd hb2 rfl
    · intro ac wx hb hd hs ho hp
      refine Or.inl ⟨rfl, ?_⟩
      have h41 : ac.tmps.getD 41 undef = .bool true := facts_at hp 4 41 (by kernel_rfl)
      unfold Oper.wp
      go_simp
      exact Stepped.at (v := .bool false) (by first | rfl | simp) hd bR rfl
    · intro ac wx hb hd hs ho hp
      refine Or.inl ⟨rfl, ?_⟩
      have h42 : ac.tmps.getD 42 undef = .bool false := facts_at hp 5 42 (by kernel_rfl)
      unfold Oper.wp
      go_simp
      exact Stepped.at (v := .bool false) (by first | rfl | simp) hd bR rfl
    · intro ac wx hb hd hs ho hp
      have hg43 : ac.tmps.getD 43 undef = .bool false := facts_at hp 6 43 (by kernel_rfl)
      refine Or.inl ⟨wanted_yes rfl (yielded_at (k := 6) (d := 43) (by kernel_rfl) hg43), ?_⟩
      clear hg43
      have h2 : ac.tmps.getD 2 undef = .slice ba lb bc := (ho 2 (by kernel_rfl)).trans rfl
      unfold Oper.wp
      go_simp
      exact Stepped.at (v := .slice ba lb bc) (by first | rfl | simp) hd bR rfl
    · intro ac wx hb hd hs ho hp
      have hg43 : ac.tmps.getD 43 undef = .bool false := facts_at hp 6 43 (by kernel_rfl)
      refine Or.inl ⟨wanted_yes rfl (yielded_at (k := 6) (d := 43) (by kernel_rfl) hg43), ?_⟩
      clear hg43
      have h44 : ac.tmps.getD 44 undef = .slice ba lb bc := facts_at hp 7 44 (by kernel_rfl)
      unfold Oper.wp
      go_simp
      refine (HVB.out wx (HB4.out.trans (hb.mono HB4.out.size))).mono ?_
      rintro e2 w2 ⟨rfl, hb2⟩
      exact Stepped.at rfl hd hb2 rfl
    · intro ac wx hb hd hs ho hp
      have hg43 : ac.tmps.getD 43 undef = .bool false := facts_at hp 6 43 (by kernel_rfl)
      refine Or.inl ⟨wanted_yes rfl (yielded_at (k := 6) (d := 43) (by kernel_rfl) hg43), ?_⟩
      clear hg43
      have h45 : ac.tmps.getD 45 undef = .bool VB := facts_at hp 8 45 (by kernel_rfl)
      unfold Oper.wp
      go_simp
      exact Stepped.at (v := .bool (!VB)) (by first | rfl | simp) hd bR rfl
    · intro ac wx hb hd hs ho hp
      have hg43 : ac.tmps.getD 43 undef = .bool false := facts_at hp 6 43 (by kernel_rfl)
      refine Or.inl ⟨wanted_yes rfl (yielded_at (k := 6) (d := 43) (by kernel_rfl) hg43), ?_⟩
      clear hg43
      have h46 : ac.tmps.getD 46 undef = .bool (!VB) := facts_at hp 9 46 (by kernel_rfl)
      unfold Oper.wp
      go_simp
      exact Stepped.at (v := .bool (!VB)) (by first | rfl | simp) hd bR rfl
    · intro ac wx hb hd hs ho hp
      have hg47 : ac.tmps.getD 47 undef = .bool (!VB) := facts_at hp 10 47 (by kernel_rfl)
      cases VB with
      | true => exact Or.inr ⟨wanted_no rfl (yielded_at (k := 10) (d := 47) (by kernel_rfl) hg47), fun d hd h => by cases h⟩
      | false =>
      refine Or.inl ⟨wanted_yes rfl (yielded_at (k := 10) (d := 47) (by kernel_rfl) hg47), ?_⟩
      clear hg47
      have h9 : ac.tmps.getD 9 undef = .pointer (some ⟨n9, 0, none⟩) := (ho 9 (by kernel_rfl)).trans rfl
      obtain ⟨x0, x1, x2, x3⟩ := four (hb.block _ (gL HQ9.out)) HQ9.out
      unfold Oper.wp
      go_simp
      exact Stepped.at (v := .agg #[.int .u8 ku, .int .i64 nu, .string su, .slice au lu cu]) (by first | rfl | simp) hd bR (fun _ => rfl)
    · intro ac wx hb hd hs ho hp
      have hg47 : ac.tmps.getD 47 undef = .bool (!VB) := facts_at hp 10 47 (by kernel_rfl)
      cases VB with
      | true => exact Or.inr ⟨wanted_no rfl (yielded_at (k := 10) (d := 47) (by kernel_rfl) hg47), fun d hd h => by cases h⟩
      | false =>
      refine Or.inl ⟨wanted_yes rfl (yielded_at (k := 10) (d := 47) (by kernel_rfl) hg47), ?_⟩
      clear hg47
      have h4 : ac.tmps.getD 4 undef = .pointer (some ⟨w.heap.size, 0, none⟩) := (ho 4 (by kernel_rfl)).trans rfl
      obtain ⟨x0, x1, x2, x3⟩ := four ((HB4.out.trans (hb.mono HB4.out.size)).block _ (gL HQ3.out)) HQ3.out
      unfold Oper.wp
      go_simp
      exact Stepped.at (v := .agg #[.int .u8 kp, .int .i64 np, .string sp, .slice ap lp cp]) (by first | rfl | simp) hd bR (fun _ => rfl)
    · intro ac wx hb hd hs ho hp
      have hg47 : ac.tmps.getD 47 undef = .bool (!VB) := facts_at hp 10 47 (by kernel_rfl)
      cases VB with
      | true => exact Or.inr ⟨wanted_no rfl (yielded_at (k := 10) (d := 47) (by kernel_rfl) hg47), fun d hd h => by cases h⟩
      | false =>
      refine Or.inl ⟨wanted_yes rfl (yielded_at (k := 10) (d := 47) (by kernel_rfl) hg47), ?_⟩
      clear hg47
      have h48 : ac.tmps.getD 48 undef = .agg #[.int .u8 ku, .int .i64 nu, .string su, .slice au lu cu] := facts_at hp 11 48 (by kernel_rfl) rfl
      have h49 : ac.tmps.getD 49 undef = .agg #[.int .u8 kp, .int .i64 np, .string sp, .slice ap lp cp] := facts_at hp 12 49 (by kernel_rfl) rfl
      unfold Oper.wp
      go_simp
      have hm := sameTerm_any u p _ _ _ _ _ _ _ _ wx (HTU.out wx hb) (HTP.out wx (HB4.out.trans (hb.mono HB4.out.size)))
      rw [(sameB_iff u p).2 (HUN.out rfl)] at hm
      refine hm.mono ?_
      rintro e2 w2 ⟨rfl, hb2⟩
      exact Stepped.at rfl hd hb2 (fun _ => rfl)
    · intro ac wx hb hd hs ho hp
      have hg47 : ac.tmps.getD 47 undef = .bool (!VB) := facts_at hp 10 47 (by kernel_rfl)
      cases VB with
      | true => exact Or.inr ⟨wanted_no rfl (yielded_at (k := 10) (d := 47) (by kernel_rfl) hg47), fun d hd h => by cases h⟩
      | false =>
      refine Or.inl ⟨wanted_yes rfl (yielded_at (k := 10) (d := 47) (by kernel_rfl) hg47), ?_⟩
      clear hg47
      have h50 : ac.tmps.getD 50 undef = .bool true := facts_at hp 13 50 (by kernel_rfl) rfl
      unfold Oper.wp
      go_simp
      exact Stepped.at (v := .bool false) (by first | rfl | simp) hd bR (fun _ => rfl)
    · intro ac wx hb hd hs ho hp
      have hg43 : ac.tmps.getD 43 undef = .bool false := facts_at hp 6 43 (by kernel_rfl)
      refine Or.inl ⟨wanted_yes rfl (yielded_at (k := 6) (d := 43) (by kernel_rfl) hg43), ?_⟩
      clear hg43
      have h47 : ac.tmps.getD 47 undef = .bool (!VB) := facts_at hp 10 47 (by kernel_rfl)
      have h51 : VB = false → ac.tmps.getD 51 undef = .bool false := facts_at hp 14 51 (by kernel_rfl)
      cases VB with
      | true =>
        unfold Oper.wp
        go_simp
        exact Stepped.at (v := .bool false) (by first | rfl | simp) hd bR rfl
      | false =>
        have h51 := h51 rfl
        unfold Oper.wp
        go_simp
        exact Stepped.at (v := .bool false) (by first | rfl | simp) hd bR rfl
    · intro ac wx hb hd hs ho hp
      refine Or.inl ⟨rfl, ?_⟩
      have h43 : ac.tmps.getD 43 undef = .bool false := facts_at hp 6 43 (by kernel_rfl)
      have h52 : ac.tmps.getD 52 undef = .bool false := facts_at hp 15 52 (by kernel_rfl)
      unfold Oper.wp
      go_simp
      exact Stepped.at (v := .bool false) (by first | rfl | simp) hd bR rfl
  intro ac W6 hJ
  have f53 : ac.tmps.getD 53 undef = .bool false := hJ.at_end 16 53 (by kernel_rfl)
  obtain ⟨u37, f37⟩ := exV (ac.tmps.getD 37 undef)
  obtain ⟨u38, f38⟩ := exV (ac.tmps.getD 38 undef)
  obtain ⟨u39, f39⟩ := exV (ac.tmps.getD 39 undef)
  obtain ⟨u40, f40⟩ := exV (ac.tmps.getD 40 undef)
  obtain ⟨u41, f41⟩ := exV (ac.tmps.getD 41 undef)
  obtain ⟨u42, f42⟩ := exV (ac.tmps.getD 42 undef)
  obtain ⟨u43, f43⟩ := exV (ac.tmps.getD 43 undef)
  obtain ⟨u44, f44⟩ := exV (ac.tmps.getD 44 undef)
  obtain ⟨u45, f45⟩ := exV (ac.tmps.getD 45 undef)
  obtain ⟨u46, f46⟩ := exV (ac.tmps.getD 46 undef)
  obtain ⟨u47, f47⟩ := exV (ac.tmps.getD 47 undef)
  obtain ⟨u48, f48⟩ := exV (ac.tmps.getD 48 undef)
  obtain ⟨u49, f49⟩ := exV (ac.tmps.getD 49 undef)
  obtain ⟨u50, f50⟩ := exV (ac.tmps.getD 50 undef)
  obtain ⟨u51, f51⟩ := exV (ac.tmps.getD 51 undef)
  obtain ⟨u52, f52⟩ := exV (ac.tmps.getD 52 undef)
  have bw := hJ.below
  obtain ⟨TT, DD⟩ := ac
  obtain rfl : DD = [] := hJ.defers
  have hE := slots_merge (List.replicate 37 false ++ List.replicate 17 true ++ List.replicate 156 false) 210 hJ.tmps rfl (by kernel_rfl) hJ.outer
  simp only [List.reduceReplicate, List.cons_append, List.nil_append, mergeFrom, Nat.zero_add, Nat.reduceAdd, f37, f38, f39, f40, f41, f42, f43, f44, f45, f46, f47, f48, f49, f50, f51, f52, f53] at hE
  clear hJ f37 f38 f39 f40 f41 f42 f43 f44 f45 f46 f47 f48 f49 f50 f51 f52 f53
  subst hE
  have HB6 := Lib.hid (HB4.out.trans (bw.mono HB4.out.size))
  clear bw HTU HQ9 HUU HUN HUC HAP
  refine HK2.out _ _ ?_
  clear HK2
  go_wp2
  refine HK.out _ _ ?_
  clear HK
  refine wp_seq_k fun K hK => ?_
  have HK := Lib.hid hK
  clear hK
  obtain ⟨OK, hOK⟩ : ∃ x, (bindM b nm v).isSome = x := ⟨_, rfl⟩
  have HOK := Lib.hid hOK
  have HBI := Lib.hid (fun (d0 d1 d2 d3 : Value) (W : World) (hW : Below W0.heap.size W0 W) (h : IsTm W.heap.size W d0 d1 d2 d3 v) => mBind_any b nm v d0 d1 d2 d3 _ W (HBV.out W hW) h (by rw [HLB.out]; have := HLN.out; omega) (fun x hx => by have := HCP.out.2.2 x hx; omega) HSB.out.2 HNM.out (by have := HCP.out.2.1; omega))
  obtain ⟨x0, x1, x2, x3⟩ := FX.out _ HB6.out
  obtain ⟨y0, y1, y2, y3⟩ := FY.out _ HB6.out
  go_wp2_with (first
    | (go_at_call 26; refine (HBI.out _ _ _ _ W6 HB6.out (HTV.out W6 HB6.out)).mono ?_; rintro e V8 hm
       obtain ⟨ca, cn, cc, rfl, hb, hc⟩ := bind_post hm
       rw [hOK]
       have HB8 := Lib.hid (HB6.out.trans (hb.mono HB6.out.size))
       have HC8 := Lib.hid hc
       clear hb hc hm))
  clear hOK HBI
  clear x0 x1 x2 x3 y0 y1 y2 y3
  refine HK.out _ _ ?_
  clear HK
  refine wp_seq_k fun K hK => ?_
  have HK := Lib.hid hK
  clear hK
  obtain ⟨OLD, hOLD⟩ : ∃ x, (lookB (prs b) nm).isSome = x := ⟨_, rfl⟩
  have HOLD := Lib.hid hOLD
  obtain ⟨G, hG⟩ : ∃ x, getT (prs b) nm = x := ⟨_, rfl⟩
  have HGG := Lib.hid hG
  have HG := Lib.hid (get_any b nm _ V8 (HBV.out V8 HB8.out) (by rw [HLB.out]; have := HLN.out; omega) (fun x hx => by have := HCP.out.2.2 x hx; omega) HSB.out.2)
  go_wp2_with (first
    | (go_at_call 15; refine HG.out.mono ?_; clear HG; rintro e V9 ⟨z0, z1, z2, z3, rfl, hb, ht⟩
       rw [hOLD]
       rw [hG] at ht
       obtain ⟨kg, ng, sg, ag, lg, cg, rfl, rfl, rfl, rfl⟩ := isTm_cells ht
       obtain ⟨U9, hU, hrU, hbU, hzU⟩ := rowTerm V9 (.int .u8 kg) (.int .i64 ng) (.string sg) (.slice ag lg cg)
       have HB9 := Lib.hid (HB8.out.trans ((hb.trans (hbU.mono hb.size)).mono HB8.out.size))
       have HC9 := Lib.hid (fun (x : Bd) (h : bindM b nm v = some x) => show BdV U9 (.slice ca cn cc) x ∧ cn = x.length from ⟨(HC8.out x h).1.grow (hb.trans (hbU.mono hb.size)), (HC8.out x h).2⟩)
       have HTG := Lib.hid (fun (W : World) (hW : Below U9.heap.size U9 W) => show IsTm W.heap.size W (.int .u8 kg) (.int .i64 ng) (.string sg) (.slice ag lg cg) G from (((ht.below hbU).mono hbU.size).below hW).mono hW.size)
       have HQ12 := Lib.hid hrU
       clear hb hrU hbU hzU ht HC8))
  clear hU hOLD hG
  refine HK.out _ _ ?_
  clear HK
  obtain ⟨n12, hn12⟩ : ∃ n, V9.heap.size = n := ⟨_, rfl⟩
  rw [hn12] at HQ12 ⊢
  clear hn12
  refine wp_seq_k fun K hK => ?_
  have HK := Lib.hid hK
  clear hK
  refine wp_seq_k fun K hK => ?_
  have HK2 := Lib.hid hK
  clear hK
  obtain ⟨VN, hVN⟩ : ∃ x, variableB nm = x := ⟨_, rfl⟩
  have HVN := Lib.hid (fun (W : World) => show Calls Tryz.prog 27 #[.string nm] W fun e w'' => e = .returned (.bool VN) ∧ W = w'' from hVN ▸ variable_any nm W HNM.out)
  obtain ⟨VV, hVV⟩ : ∃ x, v.valueB = x := ⟨_, rfl⟩
  have HVV := Lib.hid (fun (W : World) (hW : Below W0.heap.size W0 W) => show Calls Tryz.prog 13 #[.agg #[.int .u8 kv, .int .i64 nv, .string sv, .slice av lv cv]] W fun e w'' => e = .returned (.bool VV) ∧ Below W.heap.size W w'' from hVV ▸ value_any v _ _ _ _ W (HTV.out W hW) (by have := HCP.out.2.1; have := Tm.depth_le_count v; omega))
  obtain ⟨EQ, hEQ⟩ : ∃ x, (Tm.cmp G v == 0) = x := ⟨_, rfl⟩
  have HEQ := Lib.hid (fun (W : World) (hW : Below U9.heap.size U9 W) => show Calls Tryz.prog 28 #[.agg #[.int .u8 kg, .int .i64 ng, .string sg, .slice ag lg cg], .agg #[.int .u8 kv, .int .i64 nv, .string sv, .slice av lv cv]] W fun e w'' => e = .returned (.bool EQ) ∧ Below W.heap.size W w'' from hEQ ▸ equal_any G v _ _ _ _ _ _ _ _ W (HTG.out W hW) (HTV.out W (HB9.out.trans (hW.mono HB9.out.size))))
  have hBM : (OK != (((VB && VN) && VV) && (!OLD || EQ))) = false := by
    have h := laws_bind b nm v
    rw [HOK.out, HVX.out, hVN, hVV, HOLD.out, HGG.out, hEQ] at h
    rw [h]
    cases VB <;> cases VN <;> cases VV <;> cases OLD <;> cases EQ <;> rfl
  have HBM := Lib.hid hBM
  clear hVN hVV hEQ hBM
  refine wp_region_fix (FU (iwDescs10 ba lb bc (w.heap.size + 1) n12 nm OK OLD VB VN VV EQ kv nv kg ng sv sg av ag lv cv lg cg)) (FU_grow _) (by kernel_rfl) (steps_fix ?_) ?_
  · refine ⟨?_, ?_, ?_, ?_, ?_, ?_, ?_, ?_, ?_, ?_, ?_, ?_, ?_, ?_, ?_, ?_, ?_, ?_, ?_, ?_, ?_, trivial⟩
    · intro ac wx hb hd hs ho hp
      refine Or.inl ⟨rfl, ?_⟩
      have h11 : ac.tmps.getD 11 undef = .bool (OK) := (ho 11 (by kernel_rfl)).trans rfl
      unfold Oper.wp
      go_simp
      exact Stepped.at rfl hd bR (FU_mk _ rfl (by show (_ : Value) = _; first | rfl | simp))
    · intro ac wx hb hd hs ho hp
      refine Or.inl ⟨rfl, ?_⟩
      have h2 : ac.tmps.getD 2 undef = .slice ba lb bc := (ho 2 (by kernel_rfl)).trans rfl
      unfold Oper.wp
      go_simp
      exact Stepped.at rfl hd bR (FU_mk _ rfl (by show (_ : Value) = _; first | rfl | simp))
    · intro ac wx hb hd hs ho hp
      refine Or.inl ⟨rfl, ?_⟩
      have h68 := ival_at hp 1 68 (by kernel_rfl) rfl
      unfold Oper.wp
      go_simp
      refine (HVB.out wx (HB9.out.trans (hb.mono HB9.out.size))).mono ?_
      rintro e2 w2 ⟨rfl, hb2⟩
      exact Stepped.at rfl hd (hb2) (FU_mk _ rfl (by show (_ : Value) = _; first | rfl | simp))
    · intro ac wx hb hd hs ho hp
      refine Or.inl ⟨rfl, ?_⟩
      have h69 := ival_at hp 2 69 (by kernel_rfl) rfl
      unfold Oper.wp
      go_simp
      exact Stepped.at rfl hd bR (FU_mk _ rfl (by show (_ : Value) = _; first | rfl | simp))
    · intro ac wx hb hd hs ho hp
      refine gon_or1 (k := 3) (d := 70) rfl (by kernel_rfl) (ival_at hp 3 70 (by kernel_rfl) rfl) (fun hc d hd => FU_mk _ rfl (by rw [hc]; rfl)) fun hc => ?_
      have HC := Lib.hid hc
      clear hc
      have h3 : ac.tmps.getD 3 undef = .string nm := (ho 3 (by kernel_rfl)).trans rfl
      unfold Oper.wp
      go_simp
      exact Stepped.at rfl hd bR (FU_mk _ rfl (by show (_ : Value) = _; first | rfl | (rw [HC.out]; rfl)))
    · intro ac wx hb hd hs ho hp
      refine gon_or1 (k := 3) (d := 70) rfl (by kernel_rfl) (ival_at hp 3 70 (by kernel_rfl) rfl) (fun hc d hd => FU_mk _ rfl (by rw [hc]; rfl)) fun hc => ?_
      have HC := Lib.hid hc
      clear hc
      have h71 := ival_at hp 4 71 (by kernel_rfl) rfl
      rw [HC.out, cond_true] at h71
      unfold Oper.wp
      go_simp
      refine (HVN.out wx).mono ?_
      rintro e2 w2 ⟨rfl, rfl⟩
      exact Stepped.at rfl hd bR (FU_mk _ rfl (by show (_ : Value) = _; rw [HC.out]; first | rfl | simp))
    · intro ac wx hb hd hs ho hp
      refine Or.inl ⟨rfl, ?_⟩
      have h70 := ival_at hp 3 70 (by kernel_rfl) rfl
      rcases bool_of h70 with e | e
      · rw [e] at h70
        have E := Lib.hid e
        clear e
        have h72 := ival_at hp 5 72 (by kernel_rfl) rfl
        rw [gon_mk rfl E.out, cond_true] at h72
        unfold Oper.wp
        go_simp
        exact Stepped.at rfl hd bR (FU_mk _ rfl (by show (_ : Value) = _; simp [E.out]))
      · rw [e] at h70
        have E := Lib.hid e
        clear e
        unfold Oper.wp
        go_simp
        exact Stepped.at rfl hd bR (FU_mk _ rfl (by show (_ : Value) = _; simp [E.out]))
    · intro ac wx hb hd hs ho hp
      refine Or.inl ⟨rfl, ?_⟩
      have h73 := ival_at hp 6 73 (by kernel_rfl) rfl
      unfold Oper.wp
      go_simp
      exact Stepped.at rfl hd bR (FU_mk _ rfl (by show (_ : Value) = _; first | rfl | simp))
    · intro ac wx hb hd hs ho hp
      refine gon_or1 (k := 7) (d := 74) rfl (by kernel_rfl) (ival_at hp 7 74 (by kernel_rfl) rfl) (fun hc d hd => FU_mk _ rfl (by rw [hc]; rfl)) fun hc => ?_
      have HC := Lib.hid hc
      clear hc
      have h5 : ac.tmps.getD 5 undef = .pointer (some ⟨w.heap.size + 1, 0, none⟩) := (ho 5 (by kernel_rfl)).trans rfl
      obtain ⟨x0, x1, x2, x3⟩ := four ((HB9.out.trans (hb.mono HB9.out.size)).block _ (gL HQ4.out)) HQ4.out
      unfold Oper.wp
      go_simp
      exact Stepped.at rfl hd bR (FU_mk _ rfl (by show (_ : Value) = _; first | rfl | (rw [HC.out]; rfl)))
    · intro ac wx hb hd hs ho hp
      refine gon_or1 (k := 7) (d := 74) rfl (by kernel_rfl) (ival_at hp 7 74 (by kernel_rfl) rfl) (fun hc d hd => FU_mk _ rfl (by rw [hc]; rfl)) fun hc => ?_
      have HC := Lib.hid hc
      clear hc
      have h75 := ival_at hp 8 75 (by kernel_rfl) rfl
      rw [HC.out, cond_true] at h75
      unfold Oper.wp
      go_simp
      refine (HVV.out wx (HB9.out.trans (hb.mono HB9.out.size))).mono ?_
      rintro e2 w2 ⟨rfl, hb2⟩
      exact Stepped.at rfl hd (hb2) (FU_mk _ rfl (by show (_ : Value) = _; rw [HC.out]; first | rfl | simp))
    · intro ac wx hb hd hs ho hp
      refine Or.inl ⟨rfl, ?_⟩
      have h74 := ival_at hp 7 74 (by kernel_rfl) rfl
      rcases bool_of h74 with e | e
      · rw [e] at h74
        have E := Lib.hid e
        clear e
        have h76 := ival_at hp 9 76 (by kernel_rfl) rfl
        rw [gon_mk rfl E.out, cond_true] at h76
        unfold Oper.wp
        go_simp
        exact Stepped.at rfl hd bR (FU_mk _ rfl (by show (_ : Value) = _; simp [E.out]))
      · rw [e] at h74
        have E := Lib.hid e
        clear e
        unfold Oper.wp
        go_simp
        exact Stepped.at rfl hd bR (FU_mk _ rfl (by show (_ : Value) = _; simp [E.out]))
    · intro ac wx hb hd hs ho hp
      refine Or.inl ⟨rfl, ?_⟩
      have h77 := ival_at hp 10 77 (by kernel_rfl) rfl
      unfold Oper.wp
      go_simp
      exact Stepped.at rfl hd bR (FU_mk _ rfl (by show (_ : Value) = _; first | rfl | simp))
    · intro ac wx hb hd hs ho hp
      refine gon_or1 (k := 11) (d := 78) rfl (by kernel_rfl) (ival_at hp 11 78 (by kernel_rfl) rfl) (fun hc d hd => FU_mk _ rfl (by rw [hc]; rfl)) fun hc => ?_
      have HC := Lib.hid hc
      clear hc
      have h13 : ac.tmps.getD 13 undef = .bool (OLD) := (ho 13 (by kernel_rfl)).trans rfl
      unfold Oper.wp
      go_simp
      exact Stepped.at rfl hd bR (FU_mk _ rfl (by show (_ : Value) = _; first | rfl | (rw [HC.out]; rfl)))
    · intro ac wx hb hd hs ho hp
      refine gon_or1 (k := 11) (d := 78) rfl (by kernel_rfl) (ival_at hp 11 78 (by kernel_rfl) rfl) (fun hc d hd => FU_mk _ rfl (by rw [hc]; rfl)) fun hc => ?_
      have HC := Lib.hid hc
      clear hc
      have h79 := ival_at hp 12 79 (by kernel_rfl) rfl
      rw [HC.out, cond_true] at h79
      unfold Oper.wp
      go_simp
      exact Stepped.at rfl hd bR (FU_mk _ rfl (by show (_ : Value) = _; first | rfl | (rw [HC.out]; rfl)))
    · intro ac wx hb hd hs ho hp
      refine gon_or1 (k := 11) (d := 78) rfl (by kernel_rfl) (ival_at hp 11 78 (by kernel_rfl) rfl) (fun hc d hd => FU_mk _ rfl (by rw [hc]; rfl)) fun hc => ?_
      have HC := Lib.hid hc
      clear hc
      have h80 := ival_at hp 13 80 (by kernel_rfl) rfl
      rw [HC.out, cond_true] at h80
      unfold Oper.wp
      go_simp
      exact Stepped.at rfl hd bR (FU_mk _ rfl (by show (_ : Value) = _; first | rfl | (rw [HC.out]; rfl)))
    · intro ac wx hb hd hs ho hp
      refine gon_or (k := 14) (d := 81) rfl (by kernel_rfl) (ival_at hp 14 81 (by kernel_rfl) rfl) (fun hc d hd => FU_mk _ rfl (by rw [hc]; rfl)) fun hc => ?_
      have HC := Lib.hid hc
      clear hc
      have h12 : ac.tmps.getD 12 undef = .pointer (some ⟨n12, 0, none⟩) := (ho 12 (by kernel_rfl)).trans rfl
      obtain ⟨x0, x1, x2, x3⟩ := four (hb.block _ (gL HQ12.out)) HQ12.out
      unfold Oper.wp
      go_simp
      exact Stepped.at rfl hd bR (FU_mk _ rfl (by show (_ : Value) = _; first | rfl | (rw [HC.out]; rfl)))
    · intro ac wx hb hd hs ho hp
      refine gon_or (k := 14) (d := 81) rfl (by kernel_rfl) (ival_at hp 14 81 (by kernel_rfl) rfl) (fun hc d hd => FU_mk _ rfl (by rw [hc]; rfl)) fun hc => ?_
      have HC := Lib.hid hc
      clear hc
      have h5 : ac.tmps.getD 5 undef = .pointer (some ⟨w.heap.size + 1, 0, none⟩) := (ho 5 (by kernel_rfl)).trans rfl
      obtain ⟨x0, x1, x2, x3⟩ := four ((HB9.out.trans (hb.mono HB9.out.size)).block _ (gL HQ4.out)) HQ4.out
      unfold Oper.wp
      go_simp
      exact Stepped.at rfl hd bR (FU_mk _ rfl (by show (_ : Value) = _; first | rfl | (rw [HC.out]; rfl)))
    · intro ac wx hb hd hs ho hp
      refine gon_or (k := 14) (d := 81) rfl (by kernel_rfl) (ival_at hp 14 81 (by kernel_rfl) rfl) (fun hc d hd => FU_mk _ rfl (by rw [hc]; rfl)) fun hc => ?_
      have HC := Lib.hid hc
      clear hc
      have h82 := ival_at hp 15 82 (by kernel_rfl) rfl
      rw [HC.out, cond_true] at h82
      have h83 := ival_at hp 16 83 (by kernel_rfl) rfl
      rw [HC.out, cond_true] at h83
      unfold Oper.wp
      go_simp
      refine (HEQ.out wx hb).mono ?_
      rintro e2 w2 ⟨rfl, hb2⟩
      exact Stepped.at rfl hd (hb2) (FU_mk _ rfl (by show (_ : Value) = _; rw [HC.out]; first | rfl | simp))
    · intro ac wx hb hd hs ho hp
      refine gon_or1 (k := 11) (d := 78) rfl (by kernel_rfl) (ival_at hp 11 78 (by kernel_rfl) rfl) (fun hc d hd => FU_mk _ rfl (by rw [hc]; rfl)) fun hc => ?_
      have HC := Lib.hid hc
      clear hc
      have h81 := ival_at hp 14 81 (by kernel_rfl) rfl
      rw [HC.out, cond_true] at h81
      rcases bool_of h81 with e | e
      · rw [e] at h81
        have E := Lib.hid e
        clear e
        unfold Oper.wp
        go_simp
        exact Stepped.at rfl hd bR (FU_mk _ rfl (by show (_ : Value) = _; rw [HC.out, cond_true]; simp [E.out]))
      · rw [e] at h81
        have E := Lib.hid e
        clear e
        have h84 := ival_at hp 17 84 (by kernel_rfl) rfl
        rw [gon_mk HC.out E.out, cond_true] at h84
        unfold Oper.wp
        go_simp
        exact Stepped.at rfl hd bR (FU_mk _ rfl (by show (_ : Value) = _; rw [HC.out, cond_true]; simp [E.out]))
    · intro ac wx hb hd hs ho hp
      refine Or.inl ⟨rfl, ?_⟩
      have h78 := ival_at hp 11 78 (by kernel_rfl) rfl
      rcases bool_of h78 with e | e
      · rw [e] at h78
        have E := Lib.hid e
        clear e
        have h85 := ival_at hp 18 85 (by kernel_rfl) rfl
        rw [gon_mk rfl E.out, cond_true] at h85
        unfold Oper.wp
        go_simp
        exact Stepped.at rfl hd bR (FU_mk _ rfl (by show (_ : Value) = _; simp [E.out]))
      · rw [e] at h78
        have E := Lib.hid e
        clear e
        unfold Oper.wp
        go_simp
        exact Stepped.at rfl hd bR (FU_mk _ rfl (by show (_ : Value) = _; simp [E.out]))
    · intro ac wx hb hd hs ho hp
      refine Or.inl ⟨rfl, ?_⟩
      have h67 := ival_at hp 0 67 (by kernel_rfl) rfl
      have h86 := ival_at hp 19 86 (by kernel_rfl) rfl
      unfold Oper.wp
      go_simp
      exact Stepped.at rfl hd bR (FU_mk _ rfl (by show (_ : Value) = _; first | rfl | simp))
  intro ac W6 hJ
  have f87 : ac.tmps.getD 87 undef = .bool ((OK != (((VB && VN) && VV) && (!(OLD) || EQ)))) := FU_at (.val (.bool ((OK != (((VB && VN) && VV) && (!(OLD) || EQ)))))) rfl (hJ.at_end 20 87 (by kernel_rfl))
  obtain ⟨u67, f67⟩ := exV (ac.tmps.getD 67 undef)
  obtain ⟨u68, f68⟩ := exV (ac.tmps.getD 68 undef)
  obtain ⟨u69, f69⟩ := exV (ac.tmps.getD 69 undef)
  obtain ⟨u70, f70⟩ := exV (ac.tmps.getD 70 undef)
  obtain ⟨u71, f71⟩ := exV (ac.tmps.getD 71 undef)
  obtain ⟨u72, f72⟩ := exV (ac.tmps.getD 72 undef)
  obtain ⟨u73, f73⟩ := exV (ac.tmps.getD 73 undef)
  obtain ⟨u74, f74⟩ := exV (ac.tmps.getD 74 undef)
  obtain ⟨u75, f75⟩ := exV (ac.tmps.getD 75 undef)
  obtain ⟨u76, f76⟩ := exV (ac.tmps.getD 76 undef)
  obtain ⟨u77, f77⟩ := exV (ac.tmps.getD 77 undef)
  obtain ⟨u78, f78⟩ := exV (ac.tmps.getD 78 undef)
  obtain ⟨u79, f79⟩ := exV (ac.tmps.getD 79 undef)
  obtain ⟨u80, f80⟩ := exV (ac.tmps.getD 80 undef)
  obtain ⟨u81, f81⟩ := exV (ac.tmps.getD 81 undef)
  obtain ⟨u82, f82⟩ := exV (ac.tmps.getD 82 undef)
  obtain ⟨u83, f83⟩ := exV (ac.tmps.getD 83 undef)
  obtain ⟨u84, f84⟩ := exV (ac.tmps.getD 84 undef)
  obtain ⟨u85, f85⟩ := exV (ac.tmps.getD 85 undef)
  obtain ⟨u86, f86⟩ := exV (ac.tmps.getD 86 undef)
  rw [show ((OK != (((VB && VN) && VV) && (!(OLD) || EQ))) : Bool) = false from HBM.out] at f87
  have bw := hJ.below
  obtain ⟨TT, DD⟩ := ac
  obtain rfl : DD = [] := hJ.defers
  have hE := slots_merge (List.replicate 67 false ++ List.replicate 21 true ++ List.replicate 122 false) 210 hJ.tmps rfl (by kernel_rfl) hJ.outer
  simp only [List.reduceReplicate, List.cons_append, List.nil_append, mergeFrom, Nat.zero_add, Nat.reduceAdd, f67, f68, f69, f70, f71, f72, f73, f74, f75, f76, f77, f78, f79, f80, f81, f82, f83, f84, f85, f86, f87] at hE
  clear hJ f67 f68 f69 f70 f71 f72 f73 f74 f75 f76 f77 f78 f79 f80 f81 f82 f83 f84 f85 f86 f87
  subst hE
  have HB10 := Lib.hid (HB9.out.trans (bw.mono HB9.out.size))
  have HC10 := Lib.hid (fun (x : Bd) (h : bindM b nm v = some x) => show BdV W6 (.slice ca cn cc) x ∧ cn = x.length from ⟨(HC9.out x h).1.grow bw, (HC9.out x h).2⟩)
  clear bw HTG HQ12 HC9 HVB HVN HVV HEQ HBM HVX
  refine HK2.out _ _ ?_
  clear HK2
  go_wp2
  refine HK.out _ _ ?_
  clear HK
  refine wp_seq_k fun K hK => ?_
  have HK := Lib.hid hK
  clear hK
  obtain ⟨Z, hZ⟩ : ∃ z, Tm.cmp p v = z := ⟨_, rfl⟩
  have HT := Lib.hid (fun (k : Nat) (z : Int) (hz : z = k) (hk : k ≤ 255) (W : World) (hW : Below W0.heap.size W0 W) => show Calls Tryz.prog 29 #[.int .u8 z, .agg #[.int .u8 kp, .int .i64 np, .string sp, .slice ap lp cp], .agg #[.int .u8 kv, .int .i64 nv, .string sv, .slice av lv cv]] W fun e w' => e = .returned (.bool (testB k Z)) ∧ Below W.heap.size W w' from hz ▸ hZ ▸ mTest_any k hk p v _ _ _ _ _ _ _ _ W (HTP.out W hW) (HTV.out W hW))
  obtain ⟨Y, hY⟩ : ∃ z, Tm.cmp v p = z := ⟨_, rfl⟩
  have HTS := Lib.hid (fun (k : Nat) (z : Int) (hz : z = k) (hk : k ≤ 255) (W : World) (hW : Below W0.heap.size W0 W) => show Calls Tryz.prog 29 #[.int .u8 z, .agg #[.int .u8 kv, .int .i64 nv, .string sv, .slice av lv cv], .agg #[.int .u8 kp, .int .i64 np, .string sp, .slice ap lp cp]] W fun e w' => e = .returned (.bool (testB k Y)) ∧ Below W.heap.size W w' from hz ▸ hY ▸ mTest_any k hk v p _ _ _ _ _ _ _ _ W (HTV.out W hW) (HTP.out W hW))
  have HYZ := Lib.hid (show Y = -Z by rw [← hY, ← hZ]; exact cmp_neg p v HGD.out.1 HGD.out.2)
  clear hZ hY
  have TAIL : Hid (∀ (u0 u1 u2 u3 u6 u7 u8 u9 u10 u11 u12 u13 u14 u15 u16 u17 u18 u19 u20 u21 u22 u23 u24 u25 u26 u27 u28 u29 u30 u31 u32 u33 u34 u35 u36 u37 u38 u39 u40 u41 u42 u43 u44 u45 u46 u47 u48 u49 u50 u51 u52 u53 u54 u55 u56 u57 u58 u59 u60 u61 u62 u63 u64 u65 u66 u67 u68 u69 u70 u71 u72 u73 u74 u75 u76 u77 u78 u79 u80 u81 u82 u83 u84 u85 u86 u87 u88 u89 u90 u91 u92 u93 u94 u95 u96 u97 u98 u99 u100 u101 u102 u103 u104 u105 u106 u107 u108 u109 u110 u111 u112 u113 u114 u115 u116 u117 u118 u119 u120 u121 u122 u123 u124 u125 u126 u127 u128 u129 u130 u131 u132 u133 u134 u135 u136 u137 u138 u139 u140 u141 u142 u143 u144 u145 u146 u147 u148 u149 u150 u151 u152 u153 u154 u155 u156 u157 u158 u159 u160 u161 u162 u163 u164 u165 u166 u167 u168 u169 u170 u171 u172 u173 u174 u175 u176 u177 u178 u179 u180 u181 u182 u183 u184 u185 u186 u187 u188 u189 u190 u191 u192 u193 u194 u195 u196 u197 u198 u199 u200 u201 u202 u203 u204 u205 u206 u207 u208 u209 : Value) (WT : World), Below W0.heap.size W0 WT → K ⟨#[u0, u1, u2, u3, .pointer (some ⟨w.heap.size, 0, none⟩), .pointer (some ⟨w.heap.size + 1, 0, none⟩), u6, u7, u8, u9, u10, u11, u12, u13, u14, u15, u16, u17, u18, u19, u20, u21, u22, u23, u24, u25, u26, u27, u28, u29, u30, u31, u32, u33, u34, u35, u36, u37, u38, u39, u40, u41, u42, u43, u44, u45, u46, u47, u48, u49, u50, u51, u52, u53, u54, u55, u56, u57, u58, u59, u60, u61, u62, u63, u64, u65, u66, u67, u68, u69, u70, u71, u72, u73, u74, u75, u76, u77, u78, u79, u80, u81, u82, u83, u84, u85, u86, u87, u88, u89, u90, u91, u92, u93, u94, u95, u96, u97, u98, u99, u100, u101, u102, u103, u104, u105, u106, u107, u108, u109, u110, u111, u112, u113, u114, u115, u116, u117, u118, u119, u120, u121, u122, u123, u124, u125, u126, u127, u128, u129, u130, u131, u132, u133, u134, u135, u136, u137, u138, u139, u140, u141, u142, u143, u144, u145, u146, u147, u148, u149, u150, u151, u152, u153, u154, u155, u156, u157, u158, u159, u160, u161, u162, u163, u164, u165, u166, u167, u168, u169, u170, u171, u172, u173, u174, u175, u176, u177, u178, u179, u180, u181, u182, u183, u184, u185, u186, u187, u188, u189, u190, u191, u192, u193, u194, u195, u196, u197, u198, u199, u200, u201, u202, u203, u204, u205, u206, u207, u208, u209], []⟩ WT) := by
    refine Lib.hid ?_
    intros
    rename_i WT hBT
    have HBT := Lib.hid hBT
    clear hBT
    refine HK.out _ _ ?_
    clear HK
    refine wp_seq_k fun K hK => ?_
    have HK := Lib.hid hK
    clear hK
    refine wp_region_grow_or (by kernel_rfl) (FU (iwDescs19 w.heap.size (w.heap.size + 1) Z Y kp np kv nv sp sv ap av lp cp lv cv)) (FU_grow _) (by kernel_rfl) (steps_or ?_) ?_
    · refine ⟨?_, ?_, ?_, ?_, ?_, ?_, ?_, ?_, ?_, ?_, ?_, ?_, trivial⟩
      · intro ac wx hb hd hs ho hp
        refine Or.inl ⟨rfl, ?_⟩
        have h4 : ac.tmps.getD 4 undef = .pointer (some ⟨w.heap.size, 0, none⟩) := (ho 4 (by kernel_rfl)).trans rfl
        obtain ⟨x0, x1, x2, x3⟩ := four ((HBT.out.trans (hb.mono HBT.out.size)).block _ (gL HQ3.out)) HQ3.out
        unfold Oper.wp
        go_simp
        exact Stepped.at rfl hd bR (FU_mk _ rfl (by show (_ : Value) = _; first | rfl | simp))
      · intro ac wx hb hd hs ho hp
        refine Or.inl ⟨rfl, ?_⟩
        have h5 : ac.tmps.getD 5 undef = .pointer (some ⟨w.heap.size + 1, 0, none⟩) := (ho 5 (by kernel_rfl)).trans rfl
        obtain ⟨x0, x1, x2, x3⟩ := four ((HBT.out.trans (hb.mono HBT.out.size)).block _ (gL HQ4.out)) HQ4.out
        unfold Oper.wp
        go_simp
        exact Stepped.at rfl hd bR (FU_mk _ rfl (by show (_ : Value) = _; first | rfl | simp))
      · intro ac wx hb hd hs ho hp
        refine Or.inl ⟨rfl, ?_⟩
        have h126 := uval_at hp 0 126 (by kernel_rfl) rfl
        have h127 := uval_at hp 1 127 (by kernel_rfl) rfl
        unfold Oper.wp
        go_simp
        refine (HT.out 1 1 rfl (by decide) wx (HBT.out.trans (hb.mono HBT.out.size))).mono ?_
        rintro e2 w2 ⟨rfl, hb2⟩
        exact Stepped.at rfl hd (hb2) (FU_mk _ rfl (by show (_ : Value) = _; first | rfl | simp))
      · intro ac wx hb hd hs ho hp
        refine Or.inl ⟨rfl, ?_⟩
        have h4 : ac.tmps.getD 4 undef = .pointer (some ⟨w.heap.size, 0, none⟩) := (ho 4 (by kernel_rfl)).trans rfl
        obtain ⟨x0, x1, x2, x3⟩ := four ((HBT.out.trans (hb.mono HBT.out.size)).block _ (gL HQ3.out)) HQ3.out
        unfold Oper.wp
        go_simp
        exact Stepped.at rfl hd bR (FU_mk _ rfl (by show (_ : Value) = _; first | rfl | simp))
      · intro ac wx hb hd hs ho hp
        refine Or.inl ⟨rfl, ?_⟩
        have h5 : ac.tmps.getD 5 undef = .pointer (some ⟨w.heap.size + 1, 0, none⟩) := (ho 5 (by kernel_rfl)).trans rfl
        obtain ⟨x0, x1, x2, x3⟩ := four ((HBT.out.trans (hb.mono HBT.out.size)).block _ (gL HQ4.out)) HQ4.out
        unfold Oper.wp
        go_simp
        exact Stepped.at rfl hd bR (FU_mk _ rfl (by show (_ : Value) = _; first | rfl | simp))
      · intro ac wx hb hd hs ho hp
        refine Or.inl ⟨rfl, ?_⟩
        have h129 := uval_at hp 3 129 (by kernel_rfl) rfl
        have h130 := uval_at hp 4 130 (by kernel_rfl) rfl
        unfold Oper.wp
        go_simp
        refine (HT.out 3 3 rfl (by decide) wx (HBT.out.trans (hb.mono HBT.out.size))).mono ?_
        rintro e2 w2 ⟨rfl, hb2⟩
        exact Stepped.at rfl hd (hb2) (FU_mk _ rfl (by show (_ : Value) = _; first | rfl | simp))
      · intro ac wx hb hd hs ho hp
        refine Or.inl ⟨rfl, ?_⟩
        have h4 : ac.tmps.getD 4 undef = .pointer (some ⟨w.heap.size, 0, none⟩) := (ho 4 (by kernel_rfl)).trans rfl
        obtain ⟨x0, x1, x2, x3⟩ := four ((HBT.out.trans (hb.mono HBT.out.size)).block _ (gL HQ3.out)) HQ3.out
        unfold Oper.wp
        go_simp
        exact Stepped.at rfl hd bR (FU_mk _ rfl (by show (_ : Value) = _; first | rfl | simp))
      · intro ac wx hb hd hs ho hp
        refine Or.inl ⟨rfl, ?_⟩
        have h5 : ac.tmps.getD 5 undef = .pointer (some ⟨w.heap.size + 1, 0, none⟩) := (ho 5 (by kernel_rfl)).trans rfl
        obtain ⟨x0, x1, x2, x3⟩ := four ((HBT.out.trans (hb.mono HBT.out.size)).block _ (gL HQ4.out)) HQ4.out
        unfold Oper.wp
        go_simp
        exact Stepped.at rfl hd bR (FU_mk _ rfl (by show (_ : Value) = _; first | rfl | simp))
      · intro ac wx hb hd hs ho hp
        refine Or.inl ⟨rfl, ?_⟩
        have h132 := uval_at hp 6 132 (by kernel_rfl) rfl
        have h133 := uval_at hp 7 133 (by kernel_rfl) rfl
        unfold Oper.wp
        go_simp
        refine (HT.out 5 5 rfl (by decide) wx (HBT.out.trans (hb.mono HBT.out.size))).mono ?_
        rintro e2 w2 ⟨rfl, hb2⟩
        exact Stepped.at rfl hd (hb2) (FU_mk _ rfl (by show (_ : Value) = _; first | rfl | simp))
      · intro ac wx hb hd hs ho hp
        refine Or.inl ⟨rfl, ?_⟩
        have h128 := uval_at hp 2 128 (by kernel_rfl) rfl
        unfold Oper.wp
        go_simp
        exact Stepped.at rfl hd bR (FU_mk _ rfl (by show (_ : Value) = _; first | rfl | simp))
      · intro ac wx hb hd hs ho hp
        refine Or.inl ⟨rfl, ?_⟩
        have h131 := uval_at hp 5 131 (by kernel_rfl) rfl
        unfold Oper.wp
        go_simp
        exact Stepped.at rfl hd bR (FU_mk _ rfl (by show (_ : Value) = _; first | rfl | simp))
      · intro ac wx hb hd hs ho hp
        refine Or.inl ⟨rfl, ?_⟩
        have h134 := uval_at hp 8 134 (by kernel_rfl) rfl
        unfold Oper.wp
        go_simp
        exact Stepped.at rfl hd bR (FU_mk _ rfl (by show (_ : Value) = _; first | rfl | simp))
    intro ac W6 hJ
    have f17 : ac.tmps.getD 17 undef = .bool (testB 1 Z) := FU_at (.val (.bool (testB 1 Z))) rfl (hJ.at_end 9 17 (by kernel_rfl))
    have f18 : ac.tmps.getD 18 undef = .bool (testB 3 Z) := FU_at (.val (.bool (testB 3 Z))) rfl (hJ.at_end 10 18 (by kernel_rfl))
    have f19 : ac.tmps.getD 19 undef = .bool (testB 5 Z) := FU_at (.val (.bool (testB 5 Z))) rfl (hJ.at_end 11 19 (by kernel_rfl))
    obtain ⟨u126, f126⟩ := exV (ac.tmps.getD 126 undef)
    obtain ⟨u127, f127⟩ := exV (ac.tmps.getD 127 undef)
    obtain ⟨u128, f128⟩ := exV (ac.tmps.getD 128 undef)
    obtain ⟨u129, f129⟩ := exV (ac.tmps.getD 129 undef)
    obtain ⟨u130, f130⟩ := exV (ac.tmps.getD 130 undef)
    obtain ⟨u131, f131⟩ := exV (ac.tmps.getD 131 undef)
    obtain ⟨u132, f132⟩ := exV (ac.tmps.getD 132 undef)
    obtain ⟨u133, f133⟩ := exV (ac.tmps.getD 133 undef)
    obtain ⟨u134, f134⟩ := exV (ac.tmps.getD 134 undef)
    have bw := hJ.below
    obtain ⟨TT, DD⟩ := ac
    obtain rfl : DD = [] := hJ.defers
    have hE := slots_merge (List.replicate 17 false ++ List.replicate 3 true ++ List.replicate 106 false ++ List.replicate 9 true ++ List.replicate 75 false) 210 hJ.tmps rfl (by kernel_rfl) hJ.outer
    simp only [List.reduceReplicate, List.cons_append, List.nil_append, mergeFrom, Nat.zero_add, Nat.reduceAdd, f126, f127, f128, f129, f130, f131, f132, f133, f134, f17, f18, f19] at hE
    clear hJ f126 f127 f128 f129 f130 f131 f132 f133 f134 f17 f18 f19
    subst hE
    have HB20 := Lib.hid (HBT.out.trans (bw.mono HBT.out.size))
    clear bw HBT
    have hs := laws_signs Z
    rw [← HYZ.out] at hs
    obtain ⟨q0, hq0⟩ : ∃ x, testB 1 Z = x := ⟨_, rfl⟩
    rw [hq0] at hs ⊢
    have HQT0 := Lib.hid hq0
    clear hq0
    obtain ⟨q1, hq1⟩ : ∃ x, testB 3 Z = x := ⟨_, rfl⟩
    rw [hq1] at hs ⊢
    have HQT1 := Lib.hid hq1
    clear hq1
    obtain ⟨q2, hq2⟩ : ∃ x, testB 5 Z = x := ⟨_, rfl⟩
    rw [hq2] at hs ⊢
    have HQT2 := Lib.hid hq2
    clear hq2
    obtain ⟨q3, hq3⟩ : ∃ x, testB 2 Z = x := ⟨_, rfl⟩
    rw [hq3] at hs
    have HQT3 := Lib.hid hq3
    clear hq3
    obtain ⟨q4, hq4⟩ : ∃ x, testB 4 Z = x := ⟨_, rfl⟩
    rw [hq4] at hs
    have HQT4 := Lib.hid hq4
    clear hq4
    obtain ⟨q5, hq5⟩ : ∃ x, testB 6 Z = x := ⟨_, rfl⟩
    rw [hq5] at hs
    have HQT5 := Lib.hid hq5
    clear hq5
    obtain ⟨q6, hq6⟩ : ∃ x, testB 5 Y = x := ⟨_, rfl⟩
    rw [hq6] at hs
    have HQT6 := Lib.hid hq6
    clear hq6
    rcases hs with ⟨rfl, rfl, rfl, rfl, rfl, rfl, rfl⟩ | ⟨rfl, rfl, rfl, rfl, rfl, rfl, rfl⟩ | ⟨rfl, rfl, rfl, rfl, rfl, rfl, rfl⟩
    all_goals
      refine HK.out _ _ ?_
      clear HK
      refine wp_seq_k fun K hK => ?_
      have HK := Lib.hid hK
      clear hK
      go_wp2
      refine HK.out _ _ ?_
      clear HK
      obtain ⟨x0, x1, x2, x3⟩ := FX.out _ HB20.out
      obtain ⟨y0, y1, y2, y3⟩ := FY.out _ HB20.out
      go_wp2_with (first
        | (go_at_call 29; have hgd := HB25.out; clear hgd; have hm := HT.out 7 7 rfl (by decide) V25 HB25.out; rw [show testB 7 Z = false from rfl] at hm; refine hm.mono ?_; clear hm; rintro e V26 ⟨rfl, hb⟩
           have HB26 := Lib.hid (HB25.out.trans (hb.mono HB25.out.size))
           clear hb
           obtain ⟨x0, x1, x2, x3⟩ := FX.out _ HB26.out
           obtain ⟨y0, y1, y2, y3⟩ := FY.out _ HB26.out)
        | (go_at_call 29; have hgd := HB24.out; clear hgd; have hm := HT.out 0 0 rfl (by decide) V24 HB24.out; rw [show testB 0 Z = false from rfl] at hm; refine hm.mono ?_; clear hm; rintro e V25 ⟨rfl, hb⟩
           have HB25 := Lib.hid (HB24.out.trans (hb.mono HB24.out.size))
           clear hb
           obtain ⟨x0, x1, x2, x3⟩ := FX.out _ HB25.out
           obtain ⟨y0, y1, y2, y3⟩ := FY.out _ HB25.out)
        | (go_at_call 29; have hgd := HB23.out; clear hgd; have hm := HTS.out 5 5 rfl (by decide) V23 HB23.out; rw [HQT6.out] at hm; refine hm.mono ?_; clear hm; rintro e V24 ⟨rfl, hb⟩
           have HB24 := Lib.hid (HB23.out.trans (hb.mono HB23.out.size))
           clear hb
           obtain ⟨x0, x1, x2, x3⟩ := FX.out _ HB24.out
           obtain ⟨y0, y1, y2, y3⟩ := FY.out _ HB24.out)
        | (go_at_call 29; have hgd := HB22.out; clear hgd; have hm := HT.out 6 6 rfl (by decide) V22 HB22.out; rw [HQT5.out] at hm; refine hm.mono ?_; clear hm; rintro e V23 ⟨rfl, hb⟩
           have HB23 := Lib.hid (HB22.out.trans (hb.mono HB22.out.size))
           clear hb
           obtain ⟨x0, x1, x2, x3⟩ := FX.out _ HB23.out
           obtain ⟨y0, y1, y2, y3⟩ := FY.out _ HB23.out)
        | (go_at_call 29; have hgd := HB21.out; clear hgd; have hm := HT.out 4 4 rfl (by decide) V21 HB21.out; rw [HQT4.out] at hm; refine hm.mono ?_; clear hm; rintro e V22 ⟨rfl, hb⟩
           have HB22 := Lib.hid (HB21.out.trans (hb.mono HB21.out.size))
           clear hb
           obtain ⟨x0, x1, x2, x3⟩ := FX.out _ HB22.out
           obtain ⟨y0, y1, y2, y3⟩ := FY.out _ HB22.out)
        | (go_at_call 29; have hm := HT.out 2 2 rfl (by decide) W6 HB20.out; rw [HQT3.out] at hm; refine hm.mono ?_; clear hm; rintro e V21 ⟨rfl, hb⟩
           have HB21 := Lib.hid (HB20.out.trans (hb.mono HB20.out.size))
           clear hb
           obtain ⟨x0, x1, x2, x3⟩ := FX.out _ HB21.out
           obtain ⟨y0, y1, y2, y3⟩ := FY.out _ HB21.out))
      go_ret
      exact ⟨rfl, HB0.out.trans (HB26.out.mono HB0.out.size)⟩
  cases hB : bindM b nm v with
  | none =>
    obtain rfl : OK = false := by rw [← HOK.out, hB]; rfl
    clear hB
    go_wp2
    apply TAIL.out
    exact HB10.out
  | some c =>
    obtain rfl : OK = true := by rw [← HOK.out, hB]; rfl
    have hl := laws_new hB
    have HLW := Lib.hid hl
    have hcv := HC10.out c hB
    have HC := Lib.hid hcv.1
    have HCN := Lib.hid hcv.1.names.2
    have hcn := hcv.2
    have HPC : Hid (∀ x ∈ c, x.2.count ≤ 150) := Lib.hid (by
      unfold bindM at hB
      split at hB
      · exact bind_vals HCP.out.2.2 HCP.out.2.1 hB
      · cases hB)
    have hcl := hl.2.2.2.2.1
    rw [HLB.out, HOLD.out] at hcl
    have HCL := Lib.hid (show c.length ≤ 1000000 by have := HLN.out; split at hcl <;> omega)
    have HLN2 := Lib.hid HLN.out
    clear hB hl hcv
    have hii : IntKind.i64.wrap ((lb : Int) + 1) = (lb : Int) + 1 := IntWalk.i64_in _ (by have := HLN.out; omega)
    have HII := Lib.hid hii
    clear hii
    obtain rfl : cn = lb + (if OLD = true then 0 else 1) := by omega
    clear hcl
    cases OLD
    all_goals
      have hsz : lb ≤ 9223372036854775806 := by have := HLN2.out; omega
      have hii := HII.out
      go_wp2_with (first
        | (go_at_call 10; have hgd := HB13.out; clear hgd; have hm := validBd_any c _ V13 HC13.out (fun x hx => by have := HPC.out x hx; have := Tm.depth_le_count x.2; omega) HCN.out; rw [HLW.out.2.1] at hm; refine hm.mono ?_; clear hm; rintro e V14 ⟨rfl, hb⟩
           have HB14 := Lib.hid (HB13.out.trans (hb.mono HB13.out.size))
           clear hb)
        | (go_at_call 11; have hgd := HB12.out; clear hgd; have hm := extends_any c b _ _ V12 HC12.out (HBV.out V12 HB12.out) HCL.out (fun x hx => by have := HPC.out x hx; omega) HCN.out; rw [HLW.out.2.2.2.2.2] at hm; refine hm.mono ?_; clear hm; rintro e V13 ⟨rfl, hb⟩
           have HB13 := Lib.hid (HB12.out.trans (hb.mono HB12.out.size))
           have HC13 := Lib.hid (HC12.out.grow hb)
           clear hb)
        | (go_at_call 28; have hgd := HB11.out; clear hgd; have hm := equal_any (getT (prs c) nm) v _ _ _ _ _ _ _ _ U11 HX11.out (HTV.out U11 HB11.out); rw [HLW.out.2.2.2.1] at hm; refine hm.mono ?_; clear hm; rintro e V12 ⟨rfl, hb⟩
           have HB12 := Lib.hid (HB11.out.trans (hb.mono HB11.out.size))
           have HC12 := Lib.hid (HC11.out.grow hb)
           clear hb)
        | (go_at_call 15; have hm := get_any c nm _ W6 HC.out HCL.out (fun x hx => by have := HPC.out x hx; omega) HCN.out; refine hm.mono ?_; clear hm; rintro e V11 ⟨z0, z1, z2, z3, rfl, hb, ht⟩
           rw [HLW.out.2.2.1]
           obtain ⟨k1, n1, s1, a1, l1, c1, rfl, rfl, rfl, rfl⟩ := isTm_cells ht
           obtain ⟨U11, hU, hrU, hbU, hzU⟩ := rowTerm V11 (.int .u8 k1) (.int .i64 n1) (.string s1) (.slice a1 l1 c1)
           have HB11 := Lib.hid (HB10.out.trans ((hb.trans (hbU.mono hb.size)).mono HB10.out.size))
           have HC11 := Lib.hid (HC.out.grow (hb.trans (hbU.mono hb.size)))
           have HX11 := Lib.hid ((ht.below hbU).mono hbU.size)
           have x0 := cells_at hrU 0 _ rfl
           have x1 := cells_at hrU 1 _ rfl
           have x2 := cells_at hrU 2 _ rfl
           have x3 := cells_at hrU 3 _ rfl
           obtain ⟨y0, y1, y2, y3⟩ := FY.out _ HB11.out
           clear hb hrU hbU hzU ht))
      apply TAIL.out
      exact HB14.out
end Go.Proofs.YtaacmdjaaeacfaaGreatDoor
