/- MatchFinds: its walk. -/
import Derived.Test.YtlmdhlckgbgfhaaGreatDoorYQb
import Derived.Test.YtlmdhlckgbgfhaaGreatDoorYn
import Derived.Test.YtlmdhlckgbgfhaaGreatDoorYm
set_option maxRecDepth 100000
set_option maxHeartbeats 400000000
namespace Go.Proofs.YtlmdhlckgbgfhaaGreatDoor
open Go.RowKit Go.Shelf
attribute [local go_sem] Oper.semAt_some

theorem BdV.names {w : World} {v : Value} {b : Bd} (h : BdV w v b) : b.length ≤ maxLen ∧ ∀ x ∈ b, x.1.size ≤ maxLen := by
 obtain ⟨a, cap, rfl, h1, h2, hr⟩ := h
 refine ⟨Nat.le_trans h1 h2, fun x hx => ?_⟩
 obtain ⟨g, off, _, _, hi⟩ := hr (by intro e; rw [e] at hx; cases hx)
 obtain ⟨i, hi2, rfl⟩ := List.mem_iff_getElem.1 hx
 exact (hi.at i hi2).1
theorem isTm_cells {B : Nat} {w : World} {c0 c1 c2 c3 : Value} {t : Tm} (h : IsTm B w c0 c1 c2 c3 t) : ∃ k n s a l c, c0 = .int .u8 k ∧ c1 = .int .i64 n ∧ c2 = .string s ∧ c3 = .slice a l c := isTm_parts h
theorem four {w w' : World} {g : Nat} {c0 c1 c2 c3 : Value} {ty : TypeId} {z : Nat × Nat} (hb : w'.heap[g]? = w.heap[g]?) (h : w.heap[g]? = some (.cells #[c0, c1, c2, c3] ty z)) : w'.cell? ⟨g, 0, none⟩ = some c0 ∧ w'.cell? ⟨g, 1, none⟩ = some c1 ∧ w'.cell? ⟨g, 2, none⟩ = some c2 ∧ w'.cell? ⟨g, 3, none⟩ = some c3 :=
 have hq := hb.trans h
 ⟨cells_at hq 0 _ rfl, cells_at hq 1 _ rfl, cells_at hq 2 _ rfl, cells_at hq 3 _ rfl⟩
mutual
theorem applyT_count {b : Bd} {D : Nat} (hD : 1 ≤ D) (hb : ∀ x ∈ b, x.2.count ≤ D) : ∀ t : Tm, (applyT b t).count ≤ t.count * D
 | .mk k n s us => by
   have ih := applyTL_count hD hb us
   simp only [applyT]
   have e : (Tm.countL us + 1) * D = Tm.countL us * D + D := Nat.succ_mul _ _
   split
   · split
     · rename_i v hv
       obtain ⟨x, hx, rfl⟩ := lookB_mem hv
       have := hb x hx
       simp only [Tm.count]
       rw [e]
       exact Nat.le_trans this (Nat.le_add_left _ _)
     · simp only [Tm.count]
       rw [e]
       omega
   · simp only [Tm.count]
     rw [e]
     have := Nat.le_mul_of_pos_right (Tm.countL us) hD
     omega
theorem applyTL_count {b : Bd} {D : Nat} (hD : 1 ≤ D) (hb : ∀ x ∈ b, x.2.count ≤ D) : ∀ ts : List Tm, Tm.countL (applyTL b ts) ≤ Tm.countL ts * D
 | [] => by simp [applyTL, Tm.countL]
 | t :: ts => by
   have h1 := applyT_count hD hb t
   have h2 := applyTL_count hD hb ts
   simp only [applyTL, Tm.countL]
   rw [Nat.add_mul]
   omega
end
theorem count_one : ∀ t : Tm, 1 ≤ t.count
 | .mk _ _ _ _ => by simp only [Tm.count]; omega
theorem combos_count : ∀ (ls : List (List Tm)) (ts : List Tm), Tm.expL ts = some ls → (∀ t ∈ ts, ∀ l, t.exp = some l → ∀ v ∈ l, v.count ≤ t.count) → ∀ c ∈ combos ls, Tm.countL c ≤ Tm.countL ts
 | ls, [], hx, _, c, hc => by
   simp only [Tm.expL, Option.some.injEq] at hx
   subst hx
   simp only [combos, List.mem_singleton] at hc
   subst hc
   exact Nat.le_refl _
 | ls, t :: ts, hx, h, c, hc => by
   simp only [Tm.expL, Option.bind_eq_some_iff, Option.some.injEq] at hx
   obtain ⟨l, hl, ls', hls, rfl⟩ := hx
   simp only [combos, List.mem_flatMap, List.mem_map] at hc
   obtain ⟨v, hvl, vs', hvs, rfl⟩ := hc
   have h1 := h t (by simp) l hl v hvl
   have h2 := combos_count ls' ts hls (fun t ht => h t (List.mem_cons_of_mem _ ht)) vs' hvs
   simp only [Tm.countL]
   omega
theorem exp_count (t : Tm) : ∀ l, t.exp = some l → ∀ v ∈ l, v.count ≤ t.count := by
 induction t using Tm.ind with
 | h k n s us ih =>
   intro l hx v hv
   have h1 := count_one (.mk k n s us)
   have hnum : ∀ z, (numT z).count = 1 := fun _ => rfl
   simp only [Tm.exp] at hx
   split at hx
   · simp only [Option.bind_eq_some_iff] at hx
     obtain ⟨ls, hls, hx⟩ := hx
     split at hx
     case isFalse => cases hx
     cases hx
     obtain ⟨c, hc, rfl⟩ := List.mem_map.1 hv
     have := combos_count ls us hls (fun t ht => ih t ht) c hc
     simp only [Tm.count]
     omega
   · split at hx
     · simp only [Option.bind_eq_some_iff] at hx
       obtain ⟨ls, hls, hx⟩ := hx
       split at hx
       · cases hx
       · split at hx
         case isFalse => cases hx
         cases hx
         obtain ⟨z, _, rfl⟩ := List.mem_map.1 hv
         rw [hnum]; exact h1
     · split at hx
       · simp only [Option.bind_eq_some_iff] at hx
         obtain ⟨ls, hls, hx⟩ := hx
         split at hx
         · split at hx
           case isFalse => cases hx
           cases hx
           obtain ⟨z, _, rfl⟩ := List.mem_map.1 hv
           rw [hnum]; exact h1
         · cases hx; cases hv
       · cases hx
         obtain rfl := List.mem_singleton.1 hv
         simp only [Tm.count, Tm.countL]
         omega
def pickI (x m : Int) : Int := if x.tmod m < 0 then x.tmod m + m else x.tmod m
theorem pickI_in (x : Int) {m : Int} (hm : 1 ≤ m) : 0 ≤ pickI x m ∧ pickI x m < m := by
 have hr := Int.natAbs_tmod x m
 have hlt : x.natAbs % m.natAbs < m.natAbs := Nat.mod_lt _ (by omega)
 unfold pickI
 split <;> omega
theorem pick_any (x m : Int) (hm : 1 ≤ m ∧ m ≤ 1000) (w : World) : Calls Tryz.prog 11 #[.int .i64 x, .int .i64 m] w fun e w' => e = .returned (.int .i64 (pickI x m)) ∧ w = w' := by
 have h1 : ¬ m < 1 := by omega
 have h0 : (m == 0) = false := by
   have : m ≠ 0 := by omega
   simpa using this
 have h0' : ¬ m = 0 := by omega
 have hr := Int.natAbs_tmod x m
 have hlt : x.natAbs % m.natAbs < m.natAbs := Nat.mod_lt _ (by omega)
 have HP := Hi (show pickI x m = if x.tmod m < 0 then x.tmod m + m else x.tmod m from rfl)
 obtain ⟨r, hrq⟩ : ∃ r, x.tmod m = r := ⟨_, rfl⟩
 rw [hrq] at hr HP
 have w1 : IntKind.i64.wrap r = r := IntWalk.i64_in _ (by omega)
 have w2 : IntKind.i64.wrap (r + m) = r + m := IntWalk.i64_in _ (by omega)
 by_cases hneg : r < 0
 · rw [if_pos hneg] at HP
   clear hr hlt
   go_enter Tryz.func11, Tryz.ntmps11
   go_wp2
   all_goals first | (exfalso; omega) | (go_ret; exact ⟨by rw [HP.out]; rfl, rfl⟩)
 · rw [if_neg hneg] at HP
   clear hr hlt
   go_enter Tryz.func11, Tryz.ntmps11
   go_wp2
   all_goals first | (exfalso; omega) | (go_ret; exact ⟨by rw [HP.out]; rfl, rfl⟩)
theorem less_step {p : Tm} {b : Bd} {j : Nat} (h : j < b.length) : lessB p (b.take (j + 1)) = lessB p (b.take j) ++ (if lessN p b[j].1 = true then [b[j]] else []) := by
 unfold lessB
 rw [List.take_succ_eq_append_getElem h, List.filter_append, List.filter_cons]
 rfl
theorem less_len (p : Tm) (b : Bd) : (lessB p b).length ≤ b.length := List.length_filter_le _ _
theorem lessN_is {p : Tm} {L : List ByteArray} (hL : ∀ x, x ∈ L ↔ x ∈ innerT p) (n : ByteArray) : lessN p n = (hasL L n && !hasL (outerT p) n) := by
 have h1 : hasL L n = hasL (innerT p) n := by
   by_cases h : n ∈ innerT p
   · rw [hasL_iff.2 ((hL n).2 h), hasL_iff.2 h]
   · rw [hasL_no (fun h' => h ((hL n).1 h')), hasL_no h]
 unfold lessN
 rw [h1]
def LessV (w0 : World) (base : Nat) (w : World) (v : Value) (m : Bd) : Prop := ∃ xs, HoldB w0 xs m ∧ w.ownsRow base 40 5 v m.length xs
theorem LessV.grow {w0 w w' : World} {base : Nat} {v : Value} {m : Bd} (h : LessV w0 base w v m) (hb : Below w.heap.size w w') : LessV w0 base w' v m := by
 obtain ⟨xs, h1, h2⟩ := h
 exact ⟨xs, h1, own_grown h2 hb⟩
theorem LessV.bdV {w0 w : World} {base : Nat} {v : Value} {m : Bd} (h : LessV w0 base w v m) (hm : m.length ≤ 100000) (hB : Below w0.heap.size w0 w) : BdV w v m := by
 obtain ⟨xs, h1, h2⟩ := h
 exact PS.bdV ⟨hm, xs, h1, Or.inr h2⟩ hB
def FL11 (PA : Value) (p : Tm) (B : Nat) : Facts := fun i v w => match i with
 | 0 => v = PA
 | 1 => StrsW B w v (outerT p)
 | 2 => v = PA
 | 3 => ∃ L, StrsW B w v L ∧ ∀ x, x ∈ L ↔ x ∈ innerT p
 | 4 => StrsW B w v (outerT p)
 | 5 => ∃ L, StrsW B w v L ∧ ∀ x, x ∈ L ↔ x ∈ innerT p
 | _ => True
theorem StrsW.grow {base : Nat} {w w' : World} {v : Value} {l : List ByteArray} (h : StrsW base w v l) (hb : Below w.heap.size w w') : StrsW base w' v l := own_grown h hb
theorem FL11_grow {PA : Value} {p : Tm} {B : Nat} (i : Nat) (v : Value) (w w' : World) (h : FL11 PA p B i v w) (hb : Below w.heap.size w w') : FL11 PA p B i v w' := by
 match i, h with
 | 0, h => exact h
 | 1, h => exact h.grow hb
 | 2, h => exact h
 | 3, ⟨L, h1, h2⟩ => exact ⟨L, h1.grow hb, h2⟩
 | 4, h => exact h.grow hb
 | 5, ⟨L, h1, h2⟩ => exact ⟨L, h1.grow hb, h2⟩
 | _ + 6, _ => trivial
theorem finds_walk (p : Tm) (b : Bd) (pk : Int) (c0 c1 c2 c3 bv : Value) (w : World) (hp : IsTm w.heap.size w c0 c1 c2 c3 p) (hb : BdV w bv b) :
   Calls Tryz.prog 3 #[.agg #[c0, c1, c2, c3], bv, .int .i64 pk] w fun e w' => e = .returned (.bool true) ∧ Below w.heap.size w w' := by
 obtain ⟨kp, np, sp, ap, lp, cp, rfl, rfl, rfl, rfl⟩ := isTm_cells hp
 obtain ⟨W0, hW0⟩ : ∃ W0, w.alloc (.cells #[.int .u8 kp, .int .i64 np, .string sp, .slice ap lp cp] 24) = W0 := ⟨_, rfl⟩
 have hb0 : Below w.heap.size w W0 := by rw [← hW0]; exact (Below.refl _ w).alloc (Nat.le_refl _) _
 have hq3 : W0.heap[w.heap.size]? = some (.cells #[.int .u8 kp, .int .i64 np, .string sp, .slice ap lp cp] 24 (0, 0)) := by
   rw [← hW0]; exact World.alloc_heap_new _ _
 have HTP := Hi (fun (W : World) (hW : Below W0.heap.size W0 W) => show IsTm W.heap.size W _ _ _ _ p from (hp.below (hb0.trans (hW.mono hb0.size))).mono (Nat.le_trans hb0.size hW.size))
 have HBV := Hi (fun (W : World) (hW : Below W0.heap.size W0 W) => hb.grow (hb0.trans (hW.mono hb0.size)))
 have HSB := Hi hb.names
 have FX := Hi (fun (W : World) (hW : Below W0.heap.size W0 W) => four (hW.block _ (gL hq3)) hq3)
 have HB0 := Hi hb0
 obtain ⟨ba, bn, bc, rfl⟩ : ∃ a n c, bv = .slice a n c := by obtain ⟨a, c, e, _⟩ := hb; exact ⟨_, _, _, e⟩
 obtain rfl : bn = b.length := by obtain ⟨a, c, e, _⟩ := hb; simp only [Value.slice.injEq] at e; exact e.2.1
 obtain ⟨lb, hlb⟩ : ∃ lb, b.length = lb := ⟨_, rfl⟩
 rw [hlb] at HBV HSB ⊢
 have HLB := Hi hlb
 clear hp hb hq3 hb0 hlb
 go_enter Tryz.func3, Tryz.ntmps3
 refine wp_seq_k fun K hK => ?_
 have HK := Hi hK
 clear hK
 go_wp2
 refine HK.out _ _ ?_
 clear HK
 refine wp_seq_k fun K hK => ?_
 have HK := Hi hK
 clear hK
 go_wp2_with (go_at_call 5; refine (awake07_any W0).mono ?_; rintro e V1 ⟨rfl, hb1⟩; have HB1 := Hi hb1; clear hb1)
 refine HK.out _ _ ?_
 clear HK
 refine wp_seq_k fun K hK => ?_
 have HK := Hi hK
 clear hK
 obtain ⟨x0, x1, x2, x3⟩ := FX.out _ HB1.out
 obtain ⟨S1, hS1, hrS, hbS⟩ : ∃ S1, V1.alloc (.cells #[.int .u8 kp, .int .i64 np, .string sp, .slice ap lp cp] 24) = S1 ∧ S1.heap[V1.heap.size]? = some (.cells #[.int .u8 kp, .int .i64 np, .string sp, .slice ap lp cp] 24 (0, 0)) ∧ Below V1.heap.size V1 S1 := ⟨_, rfl, World.alloc_heap_new _ _, bR.alloc (Nat.le_refl _) _⟩
 have HS1 := Hi hS1
 have HRS := Hi hrS
 have HBS := Hi (HB1.out.trans (hbS.mono HB1.out.size))
 clear hS1 hrS hbS
 go_wp2_with fail
 rw [HS1.out]
 refine (small07_any b [p] _ (some ⟨V1.heap.size, 0, none⟩) 1 S1 (HBV.out S1 HBS.out) (by unfold maxLen; simp) (fun _ => ⟨V1.heap.size, 0, rfl, (gL HRS.out), ?_⟩)).mono ?_
 · simp only [IsTms]
   exact ⟨_, _, _, _, cells_at HRS.out 0 _ rfl, cells_at HRS.out 1 _ rfl, cells_at HRS.out 2 _ rfl, cells_at HRS.out 3 _ rfl, HTP.out S1 HBS.out, trivial⟩
 rintro e V2 ⟨hb2, r, rfl, hr⟩
 have HB2 := Hi (HBS.out.trans (hb2.mono HBS.out.size))
 clear hb2
 clear x0 x1 x2 x3
 cases r with
 | false =>
   clear hr
   go_wp2
   go_ret
   exact ⟨rfl, HB0.out.trans (HB2.out.mono HB0.out.size)⟩
 | true =>
 have hr := hr rfl
 have HR := Hi hr
 clear hr
 by_cases hlen : 150 < lb
 · have d1 : decide ((lb : Int) > 150) = true := decide_eq_true (by omega)
   have d2 : (lb : Int) > 150 := by omega
   go_wp2
   go_ret
   exact ⟨rfl, HB0.out.trans (HB2.out.mono HB0.out.size)⟩
 have d1 : decide ((lb : Int) > 150) = false := decide_eq_false (by omega)
 have d2 : ¬ (lb : Int) > 150 := by omega
 have HCP : Hid (p.count ≤ 150 ∧ ∀ x ∈ b, x.2.count ≤ 150) := Hi (by
   have := HR.out
   simp only [Tm.countL] at this
   exact ⟨by omega, fun x hx => by have := sumB_mem hx; omega⟩)
 have HLN := Hi (show lb ≤ 150 by omega)
 clear hlen
 obtain ⟨x0, x1, x2, x3⟩ := FX.out _ HB2.out
 have HVP := Hi (valid_any p _ _ _ _ V2 (HTP.out V2 HB2.out) (by have := HCP.out.1; have := Tm.depth_le_count p; omega))
 cases hvp : p.validB with
 | false =>
   rw [hvp] at HVP
   go_wp2_with (go_at_call 7; refine HVP.out.mono ?_; clear HVP; rintro e V3 ⟨rfl, hb⟩; have HB3 := Hi (HB2.out.trans (hb.mono HB2.out.size)); clear hb)
   go_ret
   exact ⟨rfl, HB0.out.trans (HB3.out.mono HB0.out.size)⟩
 | true =>
 rw [hvp] at HVP
 have HVT := Hi hvp
 clear hvp
 have HVB := Hi (fun (W : World) (hW : Below W0.heap.size W0 W) => validBd_any b _ W (HBV.out W hW) (fun x hx => by have := HCP.out.2 x hx; have := Tm.depth_le_count x.2; omega) HSB.out.2)
 cases hvb : validBd b with
 | false =>
   rw [hvb] at HVB
   go_wp2_with (first
     | (go_at_call 8; have hgd := HB3.out; clear hgd; refine (HVB.out V3 HB3.out).mono ?_; rintro e V4 ⟨rfl, hb⟩; have HB4 := Hi (HB3.out.trans (hb.mono HB3.out.size)); clear hb)
     | (go_at_call 7; refine HVP.out.mono ?_; clear HVP; rintro e V3 ⟨rfl, hb⟩; have HB3 := Hi (HB2.out.trans (hb.mono HB2.out.size)); clear hb))
   go_ret
   exact ⟨rfl, HB0.out.trans (HB4.out.mono HB0.out.size)⟩
 | true =>
 rw [hvb] at HVB
 have HVBT := Hi hvb
 have HPR := Hi (show prs b = b by unfold prs; rw [if_pos hvb])
 clear hvb
 go_wp2_with (first
   | (go_at_call 8; have hgd := HB3.out; clear hgd; refine (HVB.out V3 HB3.out).mono ?_; rintro e V4 ⟨rfl, hb⟩; have HB4 := Hi (HB3.out.trans (hb.mono HB3.out.size)); clear hb)
   | (go_at_call 7; refine HVP.out.mono ?_; clear HVP; rintro e V3 ⟨rfl, hb⟩; have HB3 := Hi (HB2.out.trans (hb.mono HB2.out.size)); clear hb))
 clear d1 d2
 clear x0 x1 x2 x3
 refine HK.out _ _ ?_
 clear HK
 refine wp_seq_k fun K hK => ?_
 have HK := Hi hK
 clear hK
 obtain ⟨x0, x1, x2, x3⟩ := FX.out _ HB4.out
 obtain ⟨X, hX⟩ : ∃ X, applyT b p = X := ⟨_, rfl⟩
 have HXC := Hi (show X.count ≤ 22500 by
   rw [← hX]
   have h1 := applyT_count (b := b) (D := 150) (by decide) HCP.out.2 p
   have h2 := HCP.out.1
   omega)
 have HX := Hi hX
 clear hX
 have HM := Hi (fun (v : Tm) (l : List Tm) (h1 : X.validB = true) (h2 : X.groundB = true) (h3 : X.exp = some l) (h4 : v ∈ l) => match_finds HVBT.out HVT.out (by rw [HX.out]; exact h1) (by rw [HX.out]; exact h2) (by rw [HX.out]; exact h3) h4)
 go_wp2_with (first
   | (go_at_call 9; have hm := mApply_any b (by rw [HLB.out]; have := HLN.out; omega) (fun x hx => by have := HCP.out.2 x hx; omega) HSB.out.2 _ p _ _ _ _ V4 (HBV.out V4 HB4.out) (HTP.out V4 HB4.out) (by have := HCP.out.1; omega); rw [HPR.out, HX.out] at hm; refine hm.mono ?_; clear hm; rintro e V5 ⟨y0, y1, y2, y3, rfl, ht, hb⟩
      have ht1 : IsTm V5.heap.size V5 y0 y1 y2 y3 X := ht.isTm fun b hf => hf.2
      obtain ⟨kx, nx, sx, ax, lx, cx, rfl, rfl, rfl, rfl⟩ := isTm_cells ht1
      obtain ⟨U5, hU, hrU, hbU, hzU⟩ := rowTerm V5 (.int .u8 kx) (.int .i64 nx) (.string sx) (.slice ax lx cx)
      have HB5 := Hi (HB4.out.trans ((hb.trans (hbU.mono hb.size)).mono HB4.out.size))
      have HX5 := Hi ((ht1.below hbU).mono hbU.size)
      have HQ5 := Hi hrU
      clear hb hrU hbU hzU ht ht1))
 clear x0 x1 x2 x3
 clear hU
 refine HK.out _ _ ?_
 clear HK
 refine wp_seq_k fun K hK => ?_
 have HK := Hi hK
 clear hK
 have x0 := cells_at HQ5.out 0 _ rfl
 have x1 := cells_at HQ5.out 1 _ rfl
 have x2 := cells_at HQ5.out 2 _ rfl
 have x3 := cells_at HQ5.out 3 _ rfl
 go_wp2_with (go_at_call 10; refine (expandApi_any X _ _ _ _ U5 HX5.out (by have := HXC.out; have := Tm.depth_le_count X; omega)).mono ?_; rintro e V6 ⟨v6, er, rfl, hb, hres⟩; have HB6 := Hi (HB5.out.trans (hb.mono HB5.out.size)); have HRES := Hi hres; clear hb hres)
 clear x0 x1 x2 x3
 refine HK.out _ _ ?_
 clear HK
 refine wp_seq_k fun K hK => ?_
 have HK := Hi hK
 clear hK
 rcases HRES.out with ⟨hvg, rfl, rfl⟩ | ⟨hvg, hx, rfl, rfl⟩ | ⟨hvg, ts, hx, rfl, hvals⟩
 · go_wp2
   go_ret
   exact ⟨rfl, HB0.out.trans (HB6.out.mono HB0.out.size)⟩
 · go_wp2
   go_ret
   exact ⟨rfl, HB0.out.trans (HB6.out.mono HB0.out.size)⟩
 rw [Bool.and_eq_true] at hvg
 have HM2 := Hi (fun (v : Tm) (h4 : v ∈ ts) => HM.out v ts hvg.1 hvg.2 hx h4)
 have HTC := Hi (fun (v : Tm) (h : v ∈ ts) => Nat.le_trans (exp_count X ts hx v h) HXC.out)
 have HTL := Hi (exp_le hx)
 obtain ⟨ta, tk, rfl, _, htr⟩ := hvals.tms
 have HTR := Hi htr
 clear hvals hx hvg htr HRES HM
 by_cases hts : ts = []
 · subst hts
   go_wp2
   go_ret
   exact ⟨rfl, HB0.out.trans (HB6.out.mono HB0.out.size)⟩
 have HNE := Hi hts
 have hpos : 0 < ts.length := List.length_pos_iff.2 hts
 clear hts
 obtain ⟨lt, hlt⟩ : ∃ l, ts.length = l := ⟨_, rfl⟩
 have hpk := pickI_in pk (m := (lt : Int)) (by omega)
 obtain ⟨q, hq⟩ : ∃ q : Nat, pickI pk (lt : Int) = (q : Int) := ⟨(pickI pk lt).toNat, by omega⟩
 rw [hq] at hpk
 have hqt : q < ts.length := by omega
 obtain ⟨g, off, rfl, hg, hi⟩ := HTR.out HNE.out
 obtain ⟨c0, c1, c2, c3, y0, y1, y2, y3, ht⟩ := hi.at q hqt
 obtain ⟨kv, nv, sv, av, lv, cv, rfl, rfl, rfl, rfl⟩ := isTm_cells ht
 obtain ⟨v, hv⟩ : ∃ v, ts[q] = v := ⟨_, rfl⟩
 have hvm : v ∈ ts := hv ▸ List.getElem_mem hqt
 have hvc := HTC.out v hvm
 have HVC := Hi hvc
 have HMF := Hi (HM2.out v hvm)
 have HPK := Hi (show ∀ W, Calls Tryz.prog 11 #[.int .i64 pk, .int .i64 (lt : Int)] W fun e w' => e = .returned (.int .i64 (q : Int)) ∧ W = w' from fun W => by
   have := pick_any pk (lt : Int) (by have := HTL.out; omega) W
   rwa [hq] at this)
 rw [hv] at ht
 rw [hlt] at hqt ⊢
 obtain ⟨U7, hU, hrU, hbU, hzU⟩ := rowTerm V6 (.int .u8 kv) (.int .i64 nv) (.string sv) (.slice av lv cv)
 have HB7 := Hi (HB6.out.trans (hbU.mono HB6.out.size))
 have HTV := Hi (fun (W : World) (hW : Below U7.heap.size U7 W) => show IsTm W.heap.size W _ _ _ _ v from (((ht.below hbU).mono hbU.size).below hW).mono hW.size)
 have FV := Hi (fun (W : World) (hW : Below U7.heap.size U7 W) => four (hW.block _ (gL hrU)) hrU)
 have i1 : (0 : Int) ≤ (q : Int) := by omega
 have i2 : (q : Int) < (lt : Int) := by omega
 have i3 : ((lt : Int) == 0) = false := by
   have : (lt : Int) ≠ 0 := by omega
   simpa using this
 have i4 : ¬ (lt : Int) = 0 := by omega
 have hl63 : lt ≤ 9223372036854775807 := by have := HTL.out; omega
 clear hrU hbU hzU hi hpk hvc hvm hv hq hpos ht
 go_wp2
 clear i3 i4
 refine HK.out _ _ ?_
 clear HK
 refine wp_seq_k fun K hK => ?_
 have HK := Hi hK
 clear hK
 go_wp2_with (go_at_call 11; refine (HPK.out V6).mono ?_; rintro e w' ⟨rfl, rfl⟩)
 clear y0 y1 y2 y3 i1 i2 hg hqt hU
 refine HK.out _ _ ?_
 clear HK
 refine wp_seq_k fun K hK => ?_
 have HK := Hi hK
 clear hK
 go_wp2
 refine HK.out _ _ ?_
 clear HK
 refine wp_seq_k fun K hK => ?_
 have HK := Hi hK
 clear hK
 obtain ⟨n6, hn6⟩ : ∃ n, V6.heap.size = n := ⟨_, rfl⟩
 rw [hn6] at FV ⊢
 clear hn6
 refine wp_region_grow (by kernel_rfl) (FL11 (.agg #[.int .u8 kp, .int .i64 np, .string sp, .slice ap lp cp]) p U7.heap.size) (fun i v w w' h hb => FL11_grow i v w w' h hb) (by kernel_rfl) (steps_all ?_) ?_
 · refine ⟨?_, ?_, ?_, ?_, ?_, ?_, trivial⟩
   · intro ac wx hb hd hs ho hp
     refine ⟨rfl, ?_⟩
     have h3 : ac.tmps.getD 3 undef = .pointer (some ⟨w.heap.size, 0, none⟩) := (ho 3 (by kernel_rfl)).trans rfl
     obtain ⟨x0, x1, x2, x3⟩ := FX.out _ (HB7.out.trans (hb.mono HB7.out.size))
     unfold Oper.wp
     go_simp
     exact Stepped.at (v := .agg #[.int .u8 kp, .int .i64 np, .string sp, .slice ap lp cp]) (by first | rfl | simp) hd bR rfl
   · intro ac wx hb hd hs ho hp
     refine ⟨rfl, ?_⟩
     have h63 : ac.tmps.getD 63 undef = .agg #[.int .u8 kp, .int .i64 np, .string sp, .slice ap lp cp] := facts_at hp 0 63 (by kernel_rfl)
     unfold Oper.wp
     go_simp
     refine (outer07_any p _ _ _ _ wx (HTP.out wx (HB7.out.trans (hb.mono HB7.out.size))) (by have := HCP.out.1; omega)).mono ?_
     rintro e2 w2 ⟨v2, rfl, hs2, hb2⟩
     exact Stepped.at rfl hd hb2 ((show StrsW _ _ _ _ from hs2.1).low hb.size)
   · intro ac wx hb hd hs ho hp
     refine ⟨rfl, ?_⟩
     have h3 : ac.tmps.getD 3 undef = .pointer (some ⟨w.heap.size, 0, none⟩) := (ho 3 (by kernel_rfl)).trans rfl
     obtain ⟨x0, x1, x2, x3⟩ := FX.out _ (HB7.out.trans (hb.mono HB7.out.size))
     unfold Oper.wp
     go_simp
     exact Stepped.at (v := .agg #[.int .u8 kp, .int .i64 np, .string sp, .slice ap lp cp]) (by first | rfl | simp) hd bR rfl
   · intro ac wx hb hd hs ho hp
     refine ⟨rfl, ?_⟩
     have h65 : ac.tmps.getD 65 undef = .agg #[.int .u8 kp, .int .i64 np, .string sp, .slice ap lp cp] := facts_at hp 2 65 (by kernel_rfl)
     unfold Oper.wp
     go_simp
     refine (inner07_any p _ _ _ _ wx (HTP.out wx (HB7.out.trans (hb.mono HB7.out.size))) (by have := HCP.out.1; omega)).mono ?_
     rintro e2 w2 ⟨v2, l2, rfl, hs2, _, hm2, hb2⟩
     exact Stepped.at rfl hd hb2 ⟨l2, hs2.low hb.size, hm2⟩
   · intro ac wx hb hd hs ho hp
     refine ⟨rfl, ?_⟩
     have h64 : StrsW U7.heap.size wx (ac.tmps.getD 64 undef) (outerT p) := facts_at hp 1 64 (by kernel_rfl)
     obtain ⟨u64, e64⟩ : ∃ u, ac.tmps.getD 64 undef = u := ⟨_, rfl⟩
     rw [e64] at h64
     unfold Oper.wp
     go_simp
     exact Stepped.at (v := u64) (by first | rfl | simp) hd bR h64
   · intro ac wx hb hd hs ho hp
     refine ⟨rfl, ?_⟩
     have h66 : ∃ L, StrsW U7.heap.size wx (ac.tmps.getD 66 undef) L ∧ ∀ x, x ∈ L ↔ x ∈ innerT p := facts_at hp 3 66 (by kernel_rfl)
     obtain ⟨u66, e66⟩ : ∃ u, ac.tmps.getD 66 undef = u := ⟨_, rfl⟩
     rw [e66] at h66
     unfold Oper.wp
     go_simp
     exact Stepped.at (v := u66) (by first | rfl | simp) hd bR h66
 intro ac W11 hJ
 have f12 : StrsW U7.heap.size W11 (ac.tmps.getD 12 undef) (outerT p) := hJ.at_end 4 12 (by kernel_rfl)
 have f13 : ∃ L, StrsW U7.heap.size W11 (ac.tmps.getD 13 undef) L ∧ ∀ x, x ∈ L ↔ x ∈ innerT p := hJ.at_end 5 13 (by kernel_rfl)
 obtain ⟨L, f13, hL⟩ := f13
 obtain ⟨u12, e12⟩ : ∃ u, ac.tmps.getD 12 undef = u := ⟨_, rfl⟩
 obtain ⟨u13, e13⟩ : ∃ u, ac.tmps.getD 13 undef = u := ⟨_, rfl⟩
 obtain ⟨u63, e63⟩ : ∃ u, ac.tmps.getD 63 undef = u := ⟨_, rfl⟩
 obtain ⟨u64, e64⟩ : ∃ u, ac.tmps.getD 64 undef = u := ⟨_, rfl⟩
 obtain ⟨u65, e65⟩ : ∃ u, ac.tmps.getD 65 undef = u := ⟨_, rfl⟩
 obtain ⟨u66, e66⟩ : ∃ u, ac.tmps.getD 66 undef = u := ⟨_, rfl⟩
 rw [e12] at f12
 rw [e13] at f13
 have bw := hJ.below
 obtain ⟨TT, DD⟩ := ac
 obtain rfl : DD = [] := hJ.defers
 have hE := slots_merge [false, false, false, false, false, false, false, false, false, false, false, false, true, true, false, false, false, false, false, false, false, false, false, false, false, false, false, false, false, false, false, false, false, false, false, false, false, false, false, false, false, false, false, false, false, false, false, false, false, false, false, false, false, false, false, false, false, false, false, false, false, false, false, true, true, true, true, false, false, false, false, false, false, false, false, false, false, false, false, false, false, false, false, false, false, false, false, false, false, false, false, false, false, false, false, false, false, false, false, false, false, false, false, false, false, false, false, false, false, false, false, false, false, false, false, false, false, false, false, false, false, false, false, false, false] 125 hJ.tmps rfl (by kernel_rfl) hJ.outer
 simp only [mergeFrom, Nat.zero_add, Nat.reduceAdd, e12, e13, e63, e64, e65, e66] at hE
 clear hJ e12 e13 e63 e64 e65 e66
 subst hE
 have HBW := Hi bw
 have HB11 := Hi (HB7.out.trans (bw.mono HB7.out.size))
 have HO12 := Hi f12
 have HO13 := Hi f13
 obtain ⟨oa, oc, rfl, hol, _⟩ := f12.at
 obtain ⟨ia, ic, rfl, hil, _⟩ := f13.at
 have HLI := Hi (fun n => lessN_is hL n)
 clear bw f13 hL f12 hol hil
 refine HK.out _ _ ?_
 clear HK
 obtain ⟨a0, k0, e0, _, _, hbr⟩ := HBV.out W11 HB11.out
 simp only [Value.slice.injEq] at e0
 obtain ⟨rfl, e1, rfl⟩ := e0
 clear e1
 have HBR := Hi hbr
 obtain ⟨i0, hi, hz0, hzz1, hz2⟩ := info_parts info_bind
 have hlb63 : lb ≤ 9223372036854775807 := by have := HLN.out; omega
 clear hbr
 go_wp2
 go_loopw [11, 14] (fun v i wr => ∃ j : Nat, j ≤ lb ∧ i = .int .i64 j ∧ LessV W11 W11.heap.size wr v (lessB p (b.take j)) ∧ Below W11.heap.size W11 wr) (fun _ i _ => lb - (intOf i).toNat)
 case atStart => exact ⟨0, Nat.zero_le _, rfl, ⟨[], rfl, World.ownsRow_nil _ _ _ _⟩, Below.refl _ _⟩
 case round =>
   obtain ⟨j, hj, rfl, hV, hB⟩ := hrel
   have HB := Hi hB
   have HBr := Hi (HB11.out.trans (hB.mono HB11.out.size))
   have HV := Hi hV
   by_cases hlt2 : j < lb
   · obtain ⟨g, off, rfl, hg, hi'⟩ := HBR.out (by intro e; have := HLB.out; rw [e] at this; simp at this; omega)
     have hjb : j < b.length := by rw [HLB.out]; exact hlt2
     obtain ⟨hs1, y0, c0, c1, c2, c3, y1, y2, y3, y4, ht⟩ := hi'.at j hjb
     obtain ⟨kc, nc, sc, ac, lc, cc, rfl, rfl, rfl, rfl⟩ := isTm_cells ht
     have hls := less_step (p := p) hjb
     obtain ⟨nm, hnm⟩ : ∃ nm, b[j].1 = nm := ⟨_, rfl⟩
     have hbj : b[j] = (nm, b[j].2) := by rw [← hnm]
     obtain ⟨tj, htj⟩ : ∃ t, b[j].2 = t := ⟨_, rfl⟩
     rw [htj] at hbj ht
     rw [hnm] at hs1 y0 hls
     rw [hbj, HLI.out nm] at hls
     have HLS := Hi hls
     have HHB : Hid (HoldB W11 [.string nm, .int .u8 kc, .int .i64 nc, .string sc, .slice ac lc cc] [(nm, tj)]) := Hi ⟨_, _, _, _, [], rfl, hs1, ht, rfl⟩
     have FB := Hi (fun (W : World) (hW : Below W11.heap.size W11 W) => And.intro ((hW.cell (p := ⟨g, _, none⟩) hg).trans y0) (And.intro ((hW.cell (p := ⟨g, _, none⟩) hg).trans y1) (And.intro ((hW.cell (p := ⟨g, _, none⟩) hg).trans y2) (And.intro ((hW.cell (p := ⟨g, _, none⟩) hg).trans y3) ((hW.cell (p := ⟨g, _, none⟩) hg).trans y4)))))
     obtain ⟨z0, _, _, _, _⟩ := FB.out wr hB
     have i1 : (0 : Int) ≤ (j : Int) := by omega
     have i2 : (j : Int) < (lb : Int) := by omega
     clear y0 y1 y2 y3 y4 hi' ht hs1 hls hnm hbj htj hV hg
     have HA1 := Hi (has07_any L nm _ wr (HO13.out.grow hB).at)
     cases hh1 : hasL L nm with
     | false =>
       rw [hh1] at HA1 HLS
       go_wp2_with (go_at_call 14; refine HA1.out.mono ?_; clear HA1; rintro e V12 ⟨rfl, hb⟩; have HB12 := Hi hb; clear hb)
       go_roundw
       case rel => exact ⟨j + 1, by omega, by go_num, by rw [HLS.out]; simpa using HV.out.grow HB12.out, HB.out.trans (HB12.out.mono HB.out.size)⟩
       case measure => simp [intOf]; omega
     | true =>
       rw [hh1] at HA1 HLS
       have HA2 := Hi (fun (W : World) (hW : Below W11.heap.size W11 W) => has07_any (outerT p) nm _ W (HO12.out.grow hW).at)
       cases hh2 : hasL (outerT p) nm with
       | true =>
         rw [hh2] at HA2 HLS
         go_wp2_with (first
           | (go_at_call 14; have hgd := HB12.out; clear hgd; refine (HA2.out V12 (HB.out.trans (HB12.out.mono HB.out.size))).mono ?_; rintro e V13 ⟨rfl, hb⟩; have HB13 := Hi (HB12.out.trans (hb.mono HB12.out.size)); clear hb)
           | (go_at_call 14; refine HA1.out.mono ?_; clear HA1; rintro e V12 ⟨rfl, hb⟩; have HB12 := Hi hb; clear hb z0; obtain ⟨z0, _, _, _, _⟩ := FB.out V12 (HB.out.trans (HB12.out.mono HB.out.size))))
         go_roundw
         case rel => exact ⟨j + 1, by omega, by go_num, by rw [HLS.out]; simpa using HV.out.grow HB13.out, HB.out.trans (HB13.out.mono HB.out.size)⟩
         case measure => simp [intOf]; omega
       | false =>
         rw [hh2] at HA2 HLS
         obtain ⟨xs, hxs, hown⟩ := HV.out
         have HXS := Hi hxs
         have HOWN := Hi hown
         obtain ⟨m, hm⟩ : ∃ m, lessB p (b.take j) = m := ⟨_, rfl⟩
         rw [hm] at HXS HOWN HLS hown
         have HML := Hi (show m.length ≤ 150 by
           rw [← hm]
           have h1 := less_len p (b.take j)
           have h2 : (b.take j).length ≤ b.length := by simp only [List.length_take]; omega
           have h3 := HLB.out
           have h4 := HLN.out
           omega)
         clear HV hxs hm
         obtain ⟨ma, mn, mc, rfl⟩ := ownSlice hown
         clear hown
         go_wp2_with (first
           | (at_builtin; refine wpList_append_own_at _ rfl _ _ 26 rfl W11.heap.size 40 i0 _ 5 72 Tryz.underlying26 hi hz0 hzz1 hz2 rfl (by decide) (.slice ma mn mc) m.length xs rfl (own_grown HOWN.out (HB13.out.alloc HB13.out.size _)) ⟨V13.heap.size, 0, none⟩ 1 1 [.string nm, .int .u8 kc, .int .i64 nc, .string sc, .slice ac lc cc] rfl rfl ?c1 ?c2 ?c3 ?c4 ?c5 ?_)
           | (go_at_call 14; have hgd := HB12.out; clear hgd; refine (HA2.out V12 (HB.out.trans (HB12.out.mono HB.out.size))).mono ?_; rintro e V13 ⟨rfl, hb⟩; have HB13 := Hi (HB12.out.trans (hb.mono HB12.out.size)); clear hb z0; obtain ⟨z0, z1, z2, z3, z4⟩ := FB.out V13 (HB.out.trans (HB13.out.mono HB.out.size)))
           | (go_at_call 14; refine HA1.out.mono ?_; clear HA1; rintro e V12 ⟨rfl, hb⟩; have HB12 := Hi hb; clear hb z0; obtain ⟨z0, _, _, _, _⟩ := FB.out V12 (HB.out.trans (HB12.out.mono HB.out.size))))
         case c1 =>
           intro jj u' hu'
           have hal := World.alloc_heap_new V13 (.cells #[.string nm, .int .u8 kc, .int .i64 nc, .string sc, .slice ac lc cc] 40)
           rw [Addr.add_lit, Nat.zero_add]
           exact cells_at hal jj u' (by simpa using hu')
         case c2 =>
           intro u hu
           simp only [List.mem_cons, List.not_mem_nil, or_false] at hu
           rcases hu with rfl | rfl | rfl | rfl | rfl <;> rfl
         case c3 => have := HML.out; unfold maxLen; omega
         case c4 => have := HML.out; omega
         case c5 => have := HB.out.size; have := HB13.out.size; simp; omega
         intro v' w' hown' hgrow _ _
         obtain ⟨b1, b2, b3, rfl⟩ := ownSlice hown'
         have hB' : Below W11.heap.size W11 w' := ((HB.out.trans (HB13.out.mono HB.out.size)).alloc (by have := HB.out.size; have := HB13.out.size; omega) (.cells #[.string nm, .int .u8 kc, .int .i64 nc, .string sc, .slice ac lc cc] 40)).grown hgrow (by have := HB.out.size; have := HB13.out.size; simp; omega) (fun k e => (HOWN.out.lt k e).1)
         have HB' := Hi hB'
         have HOW' := Hi hown'
         clear hown' hgrow hB'
         try simp only [Act.put, List.setIfInBounds_toArray, List.set_cons_succ, List.set_cons_zero]
         go_wp2
         go_roundw
         case rel => exact ⟨j + 1, by omega, by go_num, by rw [HLS.out]; exact ⟨_, HXS.out.append HHB.out, by simpa using HOW'.out⟩, HB'.out⟩
         case measure => simp [intOf]; omega
   · have i2 : ¬ (j : Int) < (lb : Int) := by omega
     obtain rfl : j = lb := by omega
     have hbt : b.take j = b := List.take_of_length_le (by rw [HLB.out]; exact Nat.le_refl _)
     rw [hbt] at hV
     obtain ⟨m, hm⟩ : ∃ m, lessB p b = m := ⟨_, rfl⟩
     have hml := less_len p b
     have hmm : ∀ x ∈ m, x ∈ b := fun x hx => (List.mem_filter.1 (show x ∈ lessB p b by rw [hm]; exact hx)).1
     have hmf := HMF.out
     rw [hm] at hV hml hmf
     obtain ⟨hfb, c, hfc, hce⟩ := hmf
     have HFB := Hi hfb
     have HFC := Hi hfc
     have HCE := Hi hce
     have HML := Hi (show m.length ≤ 150 by have := HLB.out; have := HLN.out; omega)
     have HMM := Hi hmm
     have hVm := hV.bdV (by have := HML.out; omega) hB
     obtain ⟨ma, mc, rfl, _⟩ := id hVm
     have HVM := Hi hVm
     have HR7 := Hi (HBW.out.trans (hB.mono HBW.out.size))
     clear hV hm hml hmm hfb hfc hce hVm hbt
     obtain ⟨WA, hWA⟩ : ∃ x, x = wr := ⟨_, rfl⟩
     subst hWA
     obtain ⟨x0, x1, x2, x3⟩ := FX.out _ HBr.out
     obtain ⟨y0, y1, y2, y3⟩ := FV.out _ HR7.out
     go_wp2_with (first
       | (go_at_call 17; have hgd := HB15.out; clear hgd; have hm := sameBinds_any b b _ _ V15 HD15.out (HBV.out V15 HB15.out); rw [(sameBd_iff b b).2 rfl] at hm; refine hm.mono ?_; clear hm; rintro e V16 ⟨rfl, hb⟩
          have HB16 := Hi (HB15.out.trans (hb.mono HB15.out.size))
          clear hb)
       | (go_at_call 15; have hgd := HB14.out; clear hgd; have hm := match_any p v b _ _ _ _ _ _ _ _ _ V14 (HTP.out V14 HB14.out) (HTV.out V14 HR14.out) (HBV.out V14 HB14.out) (by rw [HLB.out]; have := HLN.out; omega) (fun x hx => by have := HCP.out.2 x hx; omega) HSB.out.2 (by have := HCP.out.1; omega) (by have := HVC.out; omega); rw [HFB.out] at hm; refine hm.mono ?_; clear hm; rintro e V15 ⟨hb, v15, rfl, hd⟩
          obtain ⟨da, dk, rfl⟩ : ∃ a k, v15 = .slice a b.length k := by obtain ⟨a, k, e, _⟩ := hd; exact ⟨a, k, e⟩
          have HB15 := Hi (HB14.out.trans (hb.mono HB14.out.size))
          have HD15 := Hi hd
          clear hb hd)
       | (go_at_call 16; have hgd := HB13.out; clear hgd; have hm := extends_any b c _ _ V13 (HBV.out V13 HB13.out) HC13.out (by rw [HLB.out]; have := HLN.out; omega) (fun x hx => by have := HCP.out.2 x hx; omega) HSB.out.2; rw [HPR.out, HCE.out] at hm; refine hm.mono ?_; clear hm; rintro e V14 ⟨rfl, hb⟩
          have HB14 := Hi (HB13.out.trans (hb.mono HB13.out.size))
          have HR14 := Hi (HR13.out.trans (hb.mono HR13.out.size))
          clear hb x0 x1 x2 x3 y0 y1 y2 y3
          obtain ⟨x0, x1, x2, x3⟩ := FX.out _ HB14.out
          obtain ⟨y0, y1, y2, y3⟩ := FV.out _ HR14.out)
       | (go_at_call 15; have hm := match_any p v m _ _ _ _ _ _ _ _ _ WA (HTP.out WA HBr.out) (HTV.out WA HR7.out) HVM.out (by have := HML.out; omega) (fun x hx => by have := HCP.out.2 x (HMM.out x hx); omega) (fun x hx => HSB.out.2 x (HMM.out x hx)) (by have := HCP.out.1; omega) (by have := HVC.out; omega); rw [HFC.out] at hm; refine hm.mono ?_; clear hm; rintro e V13 ⟨hb, v13, rfl, hc⟩
          obtain ⟨ca, ck, rfl⟩ : ∃ a k, v13 = .slice a c.length k := by obtain ⟨a, k, e, _⟩ := hc; exact ⟨a, k, e⟩
          have HB13 := Hi (HBr.out.trans (hb.mono HBr.out.size))
          have HR13 := Hi (HR7.out.trans (hb.mono HR7.out.size))
          have HC13 := Hi hc
          clear hb hc))
     go_ret
     exact ⟨rfl, HB0.out.trans (HB16.out.mono HB0.out.size)⟩
end Go.Proofs.YtlmdhlckgbgfhaaGreatDoor
