/- MatchOrder: its walk. -/
import Derived.Test.YtlmdhlckgbgfhaaGreatDoorZQp
set_option maxRecDepth 100000
set_option maxHeartbeats 400000000
namespace Go.Proofs.YtlmdhlckgbgfhaaGreatDoor
open Go.RowKit Go.Shelf
attribute [local go_sem] Oper.semAt_some

def quDescs3 (ba ap av : Option Addr) (lb bc n lp cp lv cv : Nat) (zb zp zv : Int) (S B31 B40 B46 : Bool) : List Du := [.val (.slice ba lb bc), .val (undef), .val (.pointer (some ⟨n, 1, none⟩)), .val (.slice ap lp cp), .val (undef), .val (.pointer (some ⟨n + 1, 1, none⟩)), .val (.slice av lv cv), .val (undef), .val (.bool (S)), .val (.bool (!(S))), .val (.bool (!(S))), .val (cond (gon (true) (!(S)) false) (.slice ba lb bc) undef), .val (cond (gon (true) (!(S)) false) (.int .i64 (zb)) undef), .val (cond (gon (true) (!(S)) false) (.bool (B31)) undef), .val (.bool ((!(S) || B31))), .val (.bool ((!(S) || B31))), .val (cond (gon (true) ((!(S) || B31)) false) (.pointer (some ⟨n, 1, none⟩)) undef), .val (cond (gon (true) ((!(S) || B31)) false) (.slice ap lp cp) undef), .val (cond (gon (true) ((!(S) || B31)) false) (.int .i64 (zp)) undef), .val (cond (gon (true) ((!(S) || B31)) false) (.pointer (some ⟨n + 1, 1, none⟩)) undef), .val (cond (gon (true) ((!(S) || B31)) false) (.slice av lv cv) undef), .val (cond (gon (true) ((!(S) || B31)) false) (.int .i64 (zv)) undef), .val (cond (gon (true) ((!(S) || B31)) false) (.bool (B40)) undef), .val (.bool (((!(S) || B31) || B40))), .val (.bool (((!(S) || B31) || B40))), .val (cond (gon (true) (((!(S) || B31) || B40)) false) (.pointer (some ⟨n, 1, none⟩)) undef), .val (cond (gon (true) (((!(S) || B31) || B40)) false) (.slice ap lp cp) undef), .val (cond (gon (true) (((!(S) || B31) || B40)) false) (.int .i64 (zp)) undef), .val (cond (gon (true) (((!(S) || B31) || B40)) false) (.bool (B46)) undef), .val (.bool ((((!(S) || B31) || B40) || B46)))]
def quDescs7 (n k q l c g f : Nat) : List Du := [.val undef, .val (.pointer (some ⟨n, 1, none⟩)), .val (.slice (some ⟨g, f, none⟩) l c), .val (.int .i64 k), .val (.slice (some ⟨g, f + k * 4, none⟩) (l - k) (c - k)), .val undef, .val (.pointer (some ⟨n, 1, none⟩)), .val (.slice (some ⟨g, f, none⟩) l c), .val (.int .i64 k), .val (.slice (some ⟨g, f, none⟩) k c), .val undef, .val (.pointer (some ⟨q, 1, none⟩))]
theorem order_walk (sp sv : ByteArray) (ps vs : List Tm) (b : Bd) (tn : Int) (ap av : Option Addr) (cp cv : Nat) (bv : Value) (w : World) (hp : ps ≠ [] → ∃ g off, ap = some ⟨g, off, none⟩ ∧ g < w.heap.size ∧ IsTms w.heap.size w g off ps) (hv : vs ≠ [] → ∃ g off, av = some ⟨g, off, none⟩ ∧ g < w.heap.size ∧ IsTms w.heap.size w g off vs)
   (hb : BdV w bv b) (hlp : ps.length ≤ 2000000) (hlv : vs.length ≤ 2000000) (hcp : ps.length ≤ cp) (hcv : vs.length ≤ cv) :
   Calls Tryz.prog 4 #[.agg #[.string sp, .slice ap ps.length cp], .agg #[.string sv, .slice av vs.length cv], bv, .int .i64 tn] w fun e w' => e = .returned (.bool true) ∧ Below w.heap.size w w' := by
 obtain ⟨xs, hx, hxn, hxc⟩ := args_cells hp
 obtain ⟨ys, hy, hyn, hyc⟩ := args_cells hv
 obtain ⟨lp, hlp0⟩ : ∃ l, ps.length = l := ⟨_, rfl⟩
 obtain ⟨lv, hlv0⟩ : ∃ l, vs.length = l := ⟨_, rfl⟩
 rw [hlp0] at hlp hcp ⊢
 rw [hlv0] at hlv hcv ⊢
 obtain ⟨W0, hW0⟩ : ∃ W0, (w.alloc (.cells #[.string sp, .slice ap lp cp] 47)).alloc (.cells #[.string sv, .slice av lv cv] 47) = W0 := ⟨_, rfl⟩
 have hb0 : Below w.heap.size w W0 := by rw [← hW0]; exact ((Below.refl _ w).alloc (Nat.le_refl _) _).alloc (by simp) _
 have hq3 : W0.heap[w.heap.size]? = some (.cells #[.string sp, .slice ap lp cp] 47 (0, 0)) := by
   rw [← hW0]; exact (Below.heap_alloc _ _ _ (by simp)).trans (World.alloc_heap_new _ _)
 have hq4 : W0.heap[w.heap.size + 1]? = some (.cells #[.string sv, .slice av lv cv] 47 (0, 0)) := by
   rw [← hW0]; have := World.alloc_heap_new (w.alloc (.cells #[.string sp, .slice ap lp cp] 47)) (.cells #[.string sv, .slice av lv cv] 47); rwa [World.size_alloc] at this
 have FP := Hi (fun (W : World) (hW : Below W0.heap.size W0 W) => two (hW.block _ (gL hq3)) hq3)
 have FV := Hi (fun (W : World) (hW : Below W0.heap.size W0 W) => two (hW.block _ (gL hq4)) hq4)
 have HXC := Hi (fun (W : World) (hW : Below W0.heap.size W0 W) => hxc W (hb0.trans (hW.mono hb0.size)))
 have HYC := Hi (fun (W : World) (hW : Below W0.heap.size W0 W) => hyc W (hb0.trans (hW.mono hb0.size)))
 have HX := Hi hx
 have HY := Hi hy
 have hxl : xs.length = lp * 4 := by rw [← hlp0]; exact hx.len
 have hyl : ys.length = lv * 4 := by rw [← hlv0]; exact hy.len
 have HXL := Hi hxl
 have HYL := Hi hyl
 have HAP := Hi (fun e : ap = none => show lp = 0 by rw [← hlp0, hxn e]; rfl)
 have HAV := Hi (fun e : av = none => show lv = 0 by rw [← hlv0, hyn e]; rfl)
 have HPA := Hi (fun (W : World) (hW : Below W0.heap.size W0 W) (h : ps ≠ []) => show ∃ g off, ap = some ⟨g, off, none⟩ ∧ g < W.heap.size ∧ IsTms W.heap.size W g off ps by
   obtain ⟨g, off, h1, h2, h3⟩ := hp h
   have hw := hb0.trans (hW.mono hb0.size)
   exact ⟨g, off, h1, Nat.lt_of_lt_of_le h2 hw.size, (h3.below hw h2).mono hw.size⟩)
 have HVA := Hi (fun (W : World) (hW : Below W0.heap.size W0 W) (h : vs ≠ []) => show ∃ g off, av = some ⟨g, off, none⟩ ∧ g < W.heap.size ∧ IsTms W.heap.size W g off vs by
   obtain ⟨g, off, h1, h2, h3⟩ := hv h
   have hw := hb0.trans (hW.mono hb0.size)
   exact ⟨g, off, h1, Nat.lt_of_lt_of_le h2 hw.size, (h3.below hw h2).mono hw.size⟩)
 have HBV := Hi (fun (W : World) (hW : Below W0.heap.size W0 W) => hb.grow (hb0.trans (hW.mono hb0.size)))
 have HSB := Hi hb.names
 have HB0 := Hi hb0
 obtain ⟨ba, bn, bc, rfl⟩ : ∃ a n c, bv = .slice a n c := by obtain ⟨a, c, e, _⟩ := hb; exact ⟨_, _, _, e⟩
 obtain rfl : bn = b.length := by obtain ⟨a, c, e, _⟩ := hb; simp only [Value.slice.injEq] at e; exact e.2.1
 obtain ⟨lb, hlb⟩ : ∃ lb, b.length = lb := ⟨_, rfl⟩
 rw [hlb] at HBV HSB ⊢
 have HLB := Hi hlb
 have HLP := Hi hlp0
 have HLV := Hi hlv0
 have HLL := Hi (And.intro (And.intro hlp hlv) (And.intro hcp hcv))
 clear hp hv hb hq3 hq4 hb0 hlb hx hy hxn hyn hxc hyc hxl hyl hlp0 hlv0 hlp hlv hcp hcv
 go_enter Tryz.func4, Tryz.ntmps4
 refine wp_seq_k fun K hK => ?_
 have HK := Hi hK
 clear hK
 go_wp2
 refine HK.out _ _ ?_
 clear HK
 refine wp_seq_k fun K hK => ?_
 have HK := Hi hK
 clear hK
 go_wp2_with (go_at_call 5; refine (awake07_any W0).mono ?_; rintro e V1 ⟨rfl, hb1⟩; have HB1 := Hi hb1; clear hb1)
 refine HK.out _ _ ?_
 clear HK
 refine wp_seq_k fun K hK => ?_
 have HK := Hi hK
 clear hK
 refine wp_seq_k fun K hK => ?_
 have HK2 := Hi hK
 clear hK
 obtain ⟨us, hus⟩ : ∃ us, ps ++ vs = us := ⟨_, rfl⟩
 have HUS := Hi hus
 clear hus
 obtain ⟨S, hS⟩ : ∃ S, smallV us b = S := ⟨_, rfl⟩
 have HSS := Hi hS
 obtain ⟨zb, hzb⟩ : ∃ z : Int, (lb : Int) = z := ⟨_, rfl⟩
 obtain ⟨zp, hzp⟩ : ∃ z : Int, (lp : Int) = z := ⟨_, rfl⟩
 obtain ⟨zv, hzv⟩ : ∃ z : Int, (lv : Int) = z := ⟨_, rfl⟩
 have HZB := Hi hzb
 have HZP := Hi hzp
 have HZV := Hi hzv
 clear hS hzb hzp hzv
 obtain ⟨B31, hB31⟩ : ∃ x, (decide (((zb : Int)) > (150))) = x := ⟨_, rfl⟩
 obtain ⟨B40, hB40⟩ : ∃ x, (((zp : Int)) != (zv)) = x := ⟨_, rfl⟩
 obtain ⟨B46, hB46⟩ : ∃ x, (((zp : Int)) == (0)) = x := ⟨_, rfl⟩
 have hlb63 : lb ≤ 9223372036854775807 := by have := HSB.out.1; unfold maxLen at this; exact this
 refine wp_region_kill_or (by kernel_rfl) 7 _ (Nat.le_refl _) (by decide) kl3 (FA3 V1.heap.size lp xs us (quDescs3 ba ap av lb bc w.heap.size lp cp lv cv zb zp zv S B31 B40 B46)) (by kernel_rfl) (by kernel_rfl) (steps_kor ?_) ?_
 · refine ⟨?_, ?_, ?_, ?_, ?_, ?_, ?_, ?_, ?_, ?_, ?_, ?_, ?_, ?_, ?_, ?_, ?_, ?_, ?_, ?_, ?_, ?_, ?_, ?_, ?_, ?_, ?_, ?_, ?_, ?_, trivial⟩
   · intro ac wx hb he hd hs ho hp
     refine Or.inl ⟨rfl, ?_⟩
     have h2 : ac.tmps.getD 2 undef = .slice ba lb bc := (ho 2 (by kernel_rfl)).trans rfl
     unfold Oper.wp
     go_simp
     exact SteppedK.at rfl hd (show (0 : Nat) ≠ 7 by decide) hb.size bR (FA3_of rfl (FU_mk _ rfl (by show (_ : Value) = _; first | rfl | (first | rfl | simp) | (simp [*])))) FA3_grow
   · intro ac wx hb he hd hs ho hp
     refine Or.inl ⟨rfl, ?_⟩
     unfold Oper.wp
     go_simp
     exact SteppedK.at rfl hd (show (1 : Nat) ≠ 7 by decide) hb.size (bR.alloc (Nat.le_refl _) _) ⟨_, rfl, World.ownsRow_lit wx #[] 0 hb.size (by unfold maxLen; omega) rfl⟩ FA3_grow
   · intro ac wx hb he hd hs ho hp
     refine Or.inl ⟨rfl, ?_⟩
     have h4 : ac.tmps.getD 4 undef = .pointer (some ⟨w.heap.size, 0, none⟩) := (ho 4 (by kernel_rfl)).trans rfl
     unfold Oper.wp
     go_simp
     exact SteppedK.at rfl hd (show (2 : Nat) ≠ 7 by decide) hb.size bR (FA3_of rfl (FU_mk _ rfl (by show (_ : Value) = _; first | rfl | (first | rfl | simp) | (simp [*])))) FA3_grow
   · intro ac wx hb he hd hs ho hp
     refine Or.inl ⟨rfl, ?_⟩
     have h20 : ac.tmps.getD 20 undef = .pointer (some ⟨w.heap.size, 1, none⟩) := FA3_at hp 2 20 (by kernel_rfl) rfl rfl
     obtain ⟨_, x1⟩ := FP.out wx (HB1.out.trans (hb.mono HB1.out.size))
     unfold Oper.wp
     go_simp
     exact SteppedK.at rfl hd (show (3 : Nat) ≠ 7 by decide) hb.size bR (FA3_of rfl (FU_mk _ rfl (by show (_ : Value) = _; first | rfl | (first | rfl | simp) | (simp [*])))) FA3_grow
   · intro ac wx hb he hd hs ho hp
     refine Or.inl ⟨rfl, ?_⟩
     obtain ⟨g, h19, hO⟩ : ∃ g, ac.tmps.getD 19 undef = .slice (some ⟨g, 0, none⟩) 0 0 ∧ wx.ownsRow V1.heap.size 24 4 (ac.tmps.getD 19 undef) 0 [] := facts_at hp 1 19 (by kernel_rfl)
     rw [h19] at hO
     have h21 : ac.tmps.getD 21 undef = .slice ap lp cp := FA3_at hp 3 21 (by kernel_rfl) rfl rfl
     obtain ⟨v', w', hrun, hown, hgr⟩ := append_fresh wx V1.heap.size _ g ap lp cp xs HXL.out HAP.out (HXC.out wx (HB1.out.trans (hb.mono HB1.out.size))) (by have := HLL.out.1.1; omega) hb.size hO
     refine wp_append (.tmp 19) (.tmp 21) _ rfl ((Act.eval_tmp _ _).trans h19) ((Act.eval_tmp _ _).trans h21) hrun ?_
     have hbb : Below wx.heap.size wx w' := bR.grown hgr (Nat.le_refl _) (fun k e => by cases e)
     exact ⟨v', rfl, hbb.mono hb.size, fun _ _ => hown, fun j u _ _ _ h => FA3_grow j u _ _ h hbb⟩
   · intro ac wx hb he hd hs ho hp
     refine Or.inl ⟨rfl, ?_⟩
     have h5 : ac.tmps.getD 5 undef = .pointer (some ⟨w.heap.size + 1, 0, none⟩) := (ho 5 (by kernel_rfl)).trans rfl
     unfold Oper.wp
     go_simp
     exact SteppedK.at rfl hd (show (5 : Nat) ≠ 7 by decide) hb.size bR (FA3_of rfl (FU_mk _ rfl (by show (_ : Value) = _; first | rfl | (first | rfl | simp) | (simp [*])))) FA3_grow
   · intro ac wx hb he hd hs ho hp
     refine Or.inl ⟨rfl, ?_⟩
     have h23 : ac.tmps.getD 23 undef = .pointer (some ⟨w.heap.size + 1, 1, none⟩) := FA3_at hp 5 23 (by kernel_rfl) rfl rfl
     obtain ⟨_, x1⟩ := FV.out wx (HB1.out.trans (hb.mono HB1.out.size))
     unfold Oper.wp
     go_simp
     exact SteppedK.at rfl hd (show (6 : Nat) ≠ 7 by decide) hb.size bR (FA3_of rfl (FU_mk _ rfl (by show (_ : Value) = _; first | rfl | (first | rfl | simp) | (simp [*])))) FA3_grow
   · intro ac wx hb he hd hs ho hp
     refine Or.inl ⟨rfl, ?_⟩
     have h22 : wx.ownsRow V1.heap.size 24 4 (ac.tmps.getD 22 undef) lp xs := facts_at hp 4 22 (by kernel_rfl)
     obtain ⟨u22, e22⟩ : ∃ u, ac.tmps.getD 22 undef = u := ⟨_, rfl⟩
     rw [e22] at h22
     have h24 : ac.tmps.getD 24 undef = .slice av lv cv := FA3_at hp 6 24 (by kernel_rfl) rfl rfl
     obtain ⟨v', w', hrun, hown, hgr⟩ := append_more wx V1.heap.size _ u22 lp xs av lv cv ys HYL.out HAV.out (HYC.out wx (HB1.out.trans (hb.mono HB1.out.size))) HY.out.one' (by have := HLL.out.1; omega) hb.size h22
     refine wp_append (.tmp 22) (.tmp 24) _ rfl ((Act.eval_tmp _ _).trans e22) ((Act.eval_tmp _ _).trans h24) hrun ?_
     have hbb : Below V1.heap.size wx w' := bR.grown hgr hb.size (fun k e => (h22.lt k e).1)
     refine ⟨v', rfl, by rw [if_pos rfl]; exact hbb, fun _ _ => ?_, fun j u hj hk _ h => FA3_keep (fun e => by subst e; cases (show true = false from hk)) (fun e => by subst e; cases (show true = false from hk)) hj h⟩
     rw [← HUS.out]
     exact old_row (HX.out.append HY.out) (by rw [List.length_append, HLP.out, HLV.out]; exact hown) (HB0.out.trans ((HB1.out.trans ((hb.trans hbb).mono HB1.out.size)).mono HB0.out.size))
   · intro ac wx hb he hd hs ho hp
     refine Or.inl ⟨rfl, ?_⟩
     have h18 : ac.tmps.getD 18 undef = .slice ba lb bc := FA3_at hp 0 18 (by kernel_rfl) rfl rfl
     obtain ⟨a25, c25, e25, hl25, hr25⟩ : RowV wx (ac.tmps.getD 25 undef) us := facts_at hp 7 25 (by kernel_rfl)
     have H25 := Hi (And.intro hl25 hr25)
     clear hl25 hr25
     unfold Oper.wp
     go_simp
     refine (small07_det b us _ a25 c25 wx (HBV.out wx (HB1.out.trans (hb.mono HB1.out.size))) H25.out.1 H25.out.2).mono ?_
     rintro e2 w2 ⟨hb2, rfl⟩
     exact SteppedK.at rfl hd (show (8 : Nat) ≠ 7 by decide) hb.size hb2 (FA3_of rfl (FU_mk _ rfl (by show (_ : Value) = _; rw [HSS.out]))) FA3_grow
   · intro ac wx hb he hd hs ho hp
     refine Or.inl ⟨rfl, ?_⟩
     have h26 : ac.tmps.getD 26 undef = .bool (S) := FA3_at hp 8 26 (by kernel_rfl) rfl rfl
     unfold Oper.wp
     go_simp
     exact SteppedK.at rfl hd (show (9 : Nat) ≠ 7 by decide) hb.size bR (FA3_of rfl (FU_mk _ rfl (by show (_ : Value) = _; first | rfl | (first | rfl | simp) | (simp [*])))) FA3_grow
   · intro ac wx hb he hd hs ho hp
     refine Or.inl ⟨rfl, ?_⟩
     have h27 : ac.tmps.getD 27 undef = .bool (!(S)) := FA3_at hp 9 27 (by kernel_rfl) rfl rfl
     unfold Oper.wp
     go_simp
     exact SteppedK.at rfl hd (show (10 : Nat) ≠ 7 by decide) hb.size bR (FA3_of rfl (FU_mk _ rfl (by show (_ : Value) = _; first | rfl | (first | rfl | simp) | (simp [*])))) FA3_grow
   · intro ac wx hb he hd hs ho hp
     have hg : ac.tmps.getD 28 undef = cond (true) (.bool (!(S))) undef := FA3_at hp 10 28 (by kernel_rfl) rfl rfl
     rcases Bool.eq_false_or_eq_true (gon (true) (!(S)) false) with hc | hc
     rotate_left
     · exact Or.inr ⟨(wanted_gon (k := 10) (d := 28) rfl (by kernel_rfl) hg).trans hc, fun d hd => FA3_of rfl (FU_mk _ rfl (by rw [hc]; rfl))⟩
     refine Or.inl ⟨(wanted_gon (k := 10) (d := 28) rfl (by kernel_rfl) hg).trans hc, ?_⟩
     have HC := Hi hc
     clear hg hc
     have h2 : ac.tmps.getD 2 undef = .slice ba lb bc := (ho 2 (by kernel_rfl)).trans rfl
     unfold Oper.wp
     go_simp
     exact SteppedK.at rfl hd (show (11 : Nat) ≠ 7 by decide) hb.size bR (FA3_of rfl (FU_mk _ rfl (by show (_ : Value) = _; first | rfl | (rw [HC.out]; first | rfl | simp) | (rw [HC.out]; simp [*])))) FA3_grow
   · intro ac wx hb he hd hs ho hp
     have hg : ac.tmps.getD 28 undef = cond (true) (.bool (!(S))) undef := FA3_at hp 10 28 (by kernel_rfl) rfl rfl
     rcases Bool.eq_false_or_eq_true (gon (true) (!(S)) false) with hc | hc
     rotate_left
     · exact Or.inr ⟨(wanted_gon (k := 10) (d := 28) rfl (by kernel_rfl) hg).trans hc, fun d hd => FA3_of rfl (FU_mk _ rfl (by rw [hc]; rfl))⟩
     refine Or.inl ⟨(wanted_gon (k := 10) (d := 28) rfl (by kernel_rfl) hg).trans hc, ?_⟩
     have HC := Hi hc
     clear hg hc
     have h29 : ac.tmps.getD 29 undef = cond (gon (true) (!(S)) false) (.slice ba lb bc) undef := FA3_at hp 11 29 (by kernel_rfl) rfl rfl
     rw [HC.out, cond_true] at h29
     unfold Oper.wp
     go_simp
     exact SteppedK.at rfl hd (show (12 : Nat) ≠ 7 by decide) hb.size bR (FA3_of rfl (FU_mk _ rfl (by show (_ : Value) = _; first | rfl | (rw [HC.out]; rw [← HZB.out]; first | rfl | simp) | (rw [HC.out]; simp [*])))) FA3_grow
   · intro ac wx hb he hd hs ho hp
     have hg : ac.tmps.getD 28 undef = cond (true) (.bool (!(S))) undef := FA3_at hp 10 28 (by kernel_rfl) rfl rfl
     rcases Bool.eq_false_or_eq_true (gon (true) (!(S)) false) with hc | hc
     rotate_left
     · exact Or.inr ⟨(wanted_gon (k := 10) (d := 28) rfl (by kernel_rfl) hg).trans hc, fun d hd => FA3_of rfl (FU_mk _ rfl (by rw [hc]; rfl))⟩
     refine Or.inl ⟨(wanted_gon (k := 10) (d := 28) rfl (by kernel_rfl) hg).trans hc, ?_⟩
     have HC := Hi hc
     clear hg hc
     have h30 : ac.tmps.getD 30 undef = cond (gon (true) (!(S)) false) (.int .i64 (zb)) undef := FA3_at hp 12 30 (by kernel_rfl) rfl rfl
     rw [HC.out, cond_true] at h30
     unfold Oper.wp
     go_simp
     exact SteppedK.at rfl hd (show (13 : Nat) ≠ 7 by decide) hb.size bR (FA3_of rfl (FU_mk _ rfl (by show (_ : Value) = _; first | rfl | (rw [HC.out]; rw [← hB31]; first | rfl | simp) | (rw [HC.out]; simp [*])))) FA3_grow
   · intro ac wx hb he hd hs ho hp
     refine Or.inl ⟨rfl, ?_⟩
     have h28 : ac.tmps.getD 28 undef = .bool (!(S)) := FA3_at hp 10 28 (by kernel_rfl) rfl rfl
     rcases Bool.eq_false_or_eq_true (!(S)) with e | e
     · rw [e] at h28
       have E := Hi e
       clear e
       unfold Oper.wp
       go_simp
       exact SteppedK.at rfl hd (show (14 : Nat) ≠ 7 by decide) hb.size bR (FA3_of rfl (FU_mk _ rfl (by show (_ : Value) = _; first | (simp only [E.out, Bool.true_or]; done) | simp [E.out]))) FA3_grow
     · rw [e] at h28
       have E := Hi e
       clear e
       have h31 : ac.tmps.getD 31 undef = cond (gon (true) (!(S)) false) (.bool (B31)) undef := FA3_at hp 13 31 (by kernel_rfl) rfl rfl
       rw [gon_mk rfl E.out, cond_true] at h31
       unfold Oper.wp
       go_simp
       exact SteppedK.at rfl hd (show (14 : Nat) ≠ 7 by decide) hb.size bR (FA3_of rfl (FU_mk _ rfl (by show (_ : Value) = _; first | (simp only [E.out, Bool.false_or]; done) | simp [E.out]))) FA3_grow
   · intro ac wx hb he hd hs ho hp
     refine Or.inl ⟨rfl, ?_⟩
     have h32 : ac.tmps.getD 32 undef = .bool ((!(S) || B31)) := FA3_at hp 14 32 (by kernel_rfl) rfl rfl
     unfold Oper.wp
     go_simp
     exact SteppedK.at rfl hd (show (15 : Nat) ≠ 7 by decide) hb.size bR (FA3_of rfl (FU_mk _ rfl (by show (_ : Value) = _; first | rfl | (first | rfl | simp) | (simp [*])))) FA3_grow
   · intro ac wx hb he hd hs ho hp
     have hg : ac.tmps.getD 33 undef = cond (true) (.bool ((!(S) || B31))) undef := FA3_at hp 15 33 (by kernel_rfl) rfl rfl
     rcases Bool.eq_false_or_eq_true (gon (true) ((!(S) || B31)) false) with hc | hc
     rotate_left
     · exact Or.inr ⟨(wanted_gon (k := 15) (d := 33) rfl (by kernel_rfl) hg).trans hc, fun d hd => FA3_of rfl (FU_mk _ rfl (by rw [hc]; rfl))⟩
     refine Or.inl ⟨(wanted_gon (k := 15) (d := 33) rfl (by kernel_rfl) hg).trans hc, ?_⟩
     have HC := Hi hc
     clear hg hc
     have h4 : ac.tmps.getD 4 undef = .pointer (some ⟨w.heap.size, 0, none⟩) := (ho 4 (by kernel_rfl)).trans rfl
     unfold Oper.wp
     go_simp
     exact SteppedK.at rfl hd (show (16 : Nat) ≠ 7 by decide) hb.size bR (FA3_of rfl (FU_mk _ rfl (by show (_ : Value) = _; first | rfl | (rw [HC.out]; first | rfl | simp) | (rw [HC.out]; simp [*])))) FA3_grow
   · intro ac wx hb he hd hs ho hp
     have hg : ac.tmps.getD 33 undef = cond (true) (.bool ((!(S) || B31))) undef := FA3_at hp 15 33 (by kernel_rfl) rfl rfl
     rcases Bool.eq_false_or_eq_true (gon (true) ((!(S) || B31)) false) with hc | hc
     rotate_left
     · exact Or.inr ⟨(wanted_gon (k := 15) (d := 33) rfl (by kernel_rfl) hg).trans hc, fun d hd => FA3_of rfl (FU_mk _ rfl (by rw [hc]; rfl))⟩
     refine Or.inl ⟨(wanted_gon (k := 15) (d := 33) rfl (by kernel_rfl) hg).trans hc, ?_⟩
     have HC := Hi hc
     clear hg hc
     have h34 : ac.tmps.getD 34 undef = cond (gon (true) ((!(S) || B31)) false) (.pointer (some ⟨w.heap.size, 1, none⟩)) undef := FA3_at hp 16 34 (by kernel_rfl) rfl rfl
     rw [HC.out, cond_true] at h34
     obtain ⟨_, x1⟩ := FP.out wx (HB1.out.trans (hb.mono HB1.out.size))
     unfold Oper.wp
     go_simp
     exact SteppedK.at rfl hd (show (17 : Nat) ≠ 7 by decide) hb.size bR (FA3_of rfl (FU_mk _ rfl (by show (_ : Value) = _; first | rfl | (rw [HC.out]; first | rfl | simp) | (rw [HC.out]; simp [*])))) FA3_grow
   · intro ac wx hb he hd hs ho hp
     have hg : ac.tmps.getD 33 undef = cond (true) (.bool ((!(S) || B31))) undef := FA3_at hp 15 33 (by kernel_rfl) rfl rfl
     rcases Bool.eq_false_or_eq_true (gon (true) ((!(S) || B31)) false) with hc | hc
     rotate_left
     · exact Or.inr ⟨(wanted_gon (k := 15) (d := 33) rfl (by kernel_rfl) hg).trans hc, fun d hd => FA3_of rfl (FU_mk _ rfl (by rw [hc]; rfl))⟩
     refine Or.inl ⟨(wanted_gon (k := 15) (d := 33) rfl (by kernel_rfl) hg).trans hc, ?_⟩
     have HC := Hi hc
     clear hg hc
     have h35 : ac.tmps.getD 35 undef = cond (gon (true) ((!(S) || B31)) false) (.slice ap lp cp) undef := FA3_at hp 17 35 (by kernel_rfl) rfl rfl
     rw [HC.out, cond_true] at h35
     unfold Oper.wp
     go_simp
     exact SteppedK.at rfl hd (show (18 : Nat) ≠ 7 by decide) hb.size bR (FA3_of rfl (FU_mk _ rfl (by show (_ : Value) = _; first | rfl | (rw [HC.out]; rw [← HZP.out]; first | rfl | simp) | (rw [HC.out]; simp [*])))) FA3_grow
   · intro ac wx hb he hd hs ho hp
     have hg : ac.tmps.getD 33 undef = cond (true) (.bool ((!(S) || B31))) undef := FA3_at hp 15 33 (by kernel_rfl) rfl rfl
     rcases Bool.eq_false_or_eq_true (gon (true) ((!(S) || B31)) false) with hc | hc
     rotate_left
     · exact Or.inr ⟨(wanted_gon (k := 15) (d := 33) rfl (by kernel_rfl) hg).trans hc, fun d hd => FA3_of rfl (FU_mk _ rfl (by rw [hc]; rfl))⟩
     refine Or.inl ⟨(wanted_gon (k := 15) (d := 33) rfl (by kernel_rfl) hg).trans hc, ?_⟩
     have HC := Hi hc
     clear hg hc
     have h5 : ac.tmps.getD 5 undef = .pointer (some ⟨w.heap.size + 1, 0, none⟩) := (ho 5 (by kernel_rfl)).trans rfl
     unfold Oper.wp
     go_simp
     exact SteppedK.at rfl hd (show (19 : Nat) ≠ 7 by decide) hb.size bR (FA3_of rfl (FU_mk _ rfl (by show (_ : Value) = _; first | rfl | (rw [HC.out]; first | rfl | simp) | (rw [HC.out]; simp [*])))) FA3_grow
   · intro ac wx hb he hd hs ho hp
     have hg : ac.tmps.getD 33 undef = cond (true) (.bool ((!(S) || B31))) undef := FA3_at hp 15 33 (by kernel_rfl) rfl rfl
     rcases Bool.eq_false_or_eq_true (gon (true) ((!(S) || B31)) false) with hc | hc
     rotate_left
     · exact Or.inr ⟨(wanted_gon (k := 15) (d := 33) rfl (by kernel_rfl) hg).trans hc, fun d hd => FA3_of rfl (FU_mk _ rfl (by rw [hc]; rfl))⟩
     refine Or.inl ⟨(wanted_gon (k := 15) (d := 33) rfl (by kernel_rfl) hg).trans hc, ?_⟩
     have HC := Hi hc
     clear hg hc
     have h37 : ac.tmps.getD 37 undef = cond (gon (true) ((!(S) || B31)) false) (.pointer (some ⟨w.heap.size + 1, 1, none⟩)) undef := FA3_at hp 19 37 (by kernel_rfl) rfl rfl
     rw [HC.out, cond_true] at h37
     obtain ⟨_, x1⟩ := FV.out wx (HB1.out.trans (hb.mono HB1.out.size))
     unfold Oper.wp
     go_simp
     exact SteppedK.at rfl hd (show (20 : Nat) ≠ 7 by decide) hb.size bR (FA3_of rfl (FU_mk _ rfl (by show (_ : Value) = _; first | rfl | (rw [HC.out]; first | rfl | simp) | (rw [HC.out]; simp [*])))) FA3_grow
   · intro ac wx hb he hd hs ho hp
     have hg : ac.tmps.getD 33 undef = cond (true) (.bool ((!(S) || B31))) undef := FA3_at hp 15 33 (by kernel_rfl) rfl rfl
     rcases Bool.eq_false_or_eq_true (gon (true) ((!(S) || B31)) false) with hc | hc
     rotate_left
     · exact Or.inr ⟨(wanted_gon (k := 15) (d := 33) rfl (by kernel_rfl) hg).trans hc, fun d hd => FA3_of rfl (FU_mk _ rfl (by rw [hc]; rfl))⟩
     refine Or.inl ⟨(wanted_gon (k := 15) (d := 33) rfl (by kernel_rfl) hg).trans hc, ?_⟩
     have HC := Hi hc
     clear hg hc
     have h38 : ac.tmps.getD 38 undef = cond (gon (true) ((!(S) || B31)) false) (.slice av lv cv) undef := FA3_at hp 20 38 (by kernel_rfl) rfl rfl
     rw [HC.out, cond_true] at h38
     unfold Oper.wp
     go_simp
     exact SteppedK.at rfl hd (show (21 : Nat) ≠ 7 by decide) hb.size bR (FA3_of rfl (FU_mk _ rfl (by show (_ : Value) = _; first | rfl | (rw [HC.out]; rw [← HZV.out]; first | rfl | simp) | (rw [HC.out]; simp [*])))) FA3_grow
   · intro ac wx hb he hd hs ho hp
     have hg : ac.tmps.getD 33 undef = cond (true) (.bool ((!(S) || B31))) undef := FA3_at hp 15 33 (by kernel_rfl) rfl rfl
     rcases Bool.eq_false_or_eq_true (gon (true) ((!(S) || B31)) false) with hc | hc
     rotate_left
     · exact Or.inr ⟨(wanted_gon (k := 15) (d := 33) rfl (by kernel_rfl) hg).trans hc, fun d hd => FA3_of rfl (FU_mk _ rfl (by rw [hc]; rfl))⟩
     refine Or.inl ⟨(wanted_gon (k := 15) (d := 33) rfl (by kernel_rfl) hg).trans hc, ?_⟩
     have HC := Hi hc
     clear hg hc
     have h36 : ac.tmps.getD 36 undef = cond (gon (true) ((!(S) || B31)) false) (.int .i64 (zp)) undef := FA3_at hp 18 36 (by kernel_rfl) rfl rfl
     rw [HC.out, cond_true] at h36
     have h39 : ac.tmps.getD 39 undef = cond (gon (true) ((!(S) || B31)) false) (.int .i64 (zv)) undef := FA3_at hp 21 39 (by kernel_rfl) rfl rfl
     rw [HC.out, cond_true] at h39
     unfold Oper.wp
     go_simp
     exact SteppedK.at rfl hd (show (22 : Nat) ≠ 7 by decide) hb.size bR (FA3_of rfl (FU_mk _ rfl (by show (_ : Value) = _; first | rfl | (rw [HC.out]; rw [← hB40]; first | rfl | simp) | (rw [HC.out]; simp [*])))) FA3_grow
   · intro ac wx hb he hd hs ho hp
     refine Or.inl ⟨rfl, ?_⟩
     have h33 : ac.tmps.getD 33 undef = .bool ((!(S) || B31)) := FA3_at hp 15 33 (by kernel_rfl) rfl rfl
     rcases Bool.eq_false_or_eq_true ((!(S) || B31)) with e | e
     · rw [e] at h33
       have E := Hi e
       clear e
       unfold Oper.wp
       go_simp
       exact SteppedK.at rfl hd (show (23 : Nat) ≠ 7 by decide) hb.size bR (FA3_of rfl (FU_mk _ rfl (by show (_ : Value) = _; first | (simp only [E.out, Bool.true_or]; done) | simp [E.out]))) FA3_grow
     · rw [e] at h33
       have E := Hi e
       clear e
       have h40 : ac.tmps.getD 40 undef = cond (gon (true) ((!(S) || B31)) false) (.bool (B40)) undef := FA3_at hp 22 40 (by kernel_rfl) rfl rfl
       rw [gon_mk rfl E.out, cond_true] at h40
       unfold Oper.wp
       go_simp
       exact SteppedK.at rfl hd (show (23 : Nat) ≠ 7 by decide) hb.size bR (FA3_of rfl (FU_mk _ rfl (by show (_ : Value) = _; first | (simp only [E.out, Bool.false_or]; done) | simp [E.out]))) FA3_grow
   · intro ac wx hb he hd hs ho hp
     refine Or.inl ⟨rfl, ?_⟩
     have h41 : ac.tmps.getD 41 undef = .bool (((!(S) || B31) || B40)) := FA3_at hp 23 41 (by kernel_rfl) rfl rfl
     unfold Oper.wp
     go_simp
     exact SteppedK.at rfl hd (show (24 : Nat) ≠ 7 by decide) hb.size bR (FA3_of rfl (FU_mk _ rfl (by show (_ : Value) = _; first | rfl | (first | rfl | simp) | (simp [*])))) FA3_grow
   · intro ac wx hb he hd hs ho hp
     have hg : ac.tmps.getD 42 undef = cond (true) (.bool (((!(S) || B31) || B40))) undef := FA3_at hp 24 42 (by kernel_rfl) rfl rfl
     rcases Bool.eq_false_or_eq_true (gon (true) (((!(S) || B31) || B40)) false) with hc | hc
     rotate_left
     · exact Or.inr ⟨(wanted_gon (k := 24) (d := 42) rfl (by kernel_rfl) hg).trans hc, fun d hd => FA3_of rfl (FU_mk _ rfl (by rw [hc]; rfl))⟩
     refine Or.inl ⟨(wanted_gon (k := 24) (d := 42) rfl (by kernel_rfl) hg).trans hc, ?_⟩
     have HC := Hi hc
     clear hg hc
     have h4 : ac.tmps.getD 4 undef = .pointer (some ⟨w.heap.size, 0, none⟩) := (ho 4 (by kernel_rfl)).trans rfl
     unfold Oper.wp
     go_simp
     exact SteppedK.at rfl hd (show (25 : Nat) ≠ 7 by decide) hb.size bR (FA3_of rfl (FU_mk _ rfl (by show (_ : Value) = _; first | rfl | (rw [HC.out]; first | rfl | simp) | (rw [HC.out]; simp [*])))) FA3_grow
   · intro ac wx hb he hd hs ho hp
     have hg : ac.tmps.getD 42 undef = cond (true) (.bool (((!(S) || B31) || B40))) undef := FA3_at hp 24 42 (by kernel_rfl) rfl rfl
     rcases Bool.eq_false_or_eq_true (gon (true) (((!(S) || B31) || B40)) false) with hc | hc
     rotate_left
     · exact Or.inr ⟨(wanted_gon (k := 24) (d := 42) rfl (by kernel_rfl) hg).trans hc, fun d hd => FA3_of rfl (FU_mk _ rfl (by rw [hc]; rfl))⟩
     refine Or.inl ⟨(wanted_gon (k := 24) (d := 42) rfl (by kernel_rfl) hg).trans hc, ?_⟩
     have HC := Hi hc
     clear hg hc
     have h43 : ac.tmps.getD 43 undef = cond (gon (true) (((!(S) || B31) || B40)) false) (.pointer (some ⟨w.heap.size, 1, none⟩)) undef := FA3_at hp 25 43 (by kernel_rfl) rfl rfl
     rw [HC.out, cond_true] at h43
     obtain ⟨_, x1⟩ := FP.out wx (HB1.out.trans (hb.mono HB1.out.size))
     unfold Oper.wp
     go_simp
     exact SteppedK.at rfl hd (show (26 : Nat) ≠ 7 by decide) hb.size bR (FA3_of rfl (FU_mk _ rfl (by show (_ : Value) = _; first | rfl | (rw [HC.out]; first | rfl | simp) | (rw [HC.out]; simp [*])))) FA3_grow
   · intro ac wx hb he hd hs ho hp
     have hg : ac.tmps.getD 42 undef = cond (true) (.bool (((!(S) || B31) || B40))) undef := FA3_at hp 24 42 (by kernel_rfl) rfl rfl
     rcases Bool.eq_false_or_eq_true (gon (true) (((!(S) || B31) || B40)) false) with hc | hc
     rotate_left
     · exact Or.inr ⟨(wanted_gon (k := 24) (d := 42) rfl (by kernel_rfl) hg).trans hc, fun d hd => FA3_of rfl (FU_mk _ rfl (by rw [hc]; rfl))⟩
     refine Or.inl ⟨(wanted_gon (k := 24) (d := 42) rfl (by kernel_rfl) hg).trans hc, ?_⟩
     have HC := Hi hc
     clear hg hc
     have h44 : ac.tmps.getD 44 undef = cond (gon (true) (((!(S) || B31) || B40)) false) (.slice ap lp cp) undef := FA3_at hp 26 44 (by kernel_rfl) rfl rfl
     rw [HC.out, cond_true] at h44
     unfold Oper.wp
     go_simp
     exact SteppedK.at rfl hd (show (27 : Nat) ≠ 7 by decide) hb.size bR (FA3_of rfl (FU_mk _ rfl (by show (_ : Value) = _; first | rfl | (rw [HC.out]; rw [← HZP.out]; first | rfl | simp) | (rw [HC.out]; simp [*])))) FA3_grow
   · intro ac wx hb he hd hs ho hp
     have hg : ac.tmps.getD 42 undef = cond (true) (.bool (((!(S) || B31) || B40))) undef := FA3_at hp 24 42 (by kernel_rfl) rfl rfl
     rcases Bool.eq_false_or_eq_true (gon (true) (((!(S) || B31) || B40)) false) with hc | hc
     rotate_left
     · exact Or.inr ⟨(wanted_gon (k := 24) (d := 42) rfl (by kernel_rfl) hg).trans hc, fun d hd => FA3_of rfl (FU_mk _ rfl (by rw [hc]; rfl))⟩
     refine Or.inl ⟨(wanted_gon (k := 24) (d := 42) rfl (by kernel_rfl) hg).trans hc, ?_⟩
     have HC := Hi hc
     clear hg hc
     have h45 : ac.tmps.getD 45 undef = cond (gon (true) (((!(S) || B31) || B40)) false) (.int .i64 (zp)) undef := FA3_at hp 27 45 (by kernel_rfl) rfl rfl
     rw [HC.out, cond_true] at h45
     unfold Oper.wp
     go_simp
     exact SteppedK.at rfl hd (show (28 : Nat) ≠ 7 by decide) hb.size bR (FA3_of rfl (FU_mk _ rfl (by show (_ : Value) = _; first | rfl | (rw [HC.out]; rw [← hB46]; first | rfl | simp) | (rw [HC.out]; simp [*])))) FA3_grow
   · intro ac wx hb he hd hs ho hp
     refine Or.inl ⟨rfl, ?_⟩
     have h42 : ac.tmps.getD 42 undef = .bool (((!(S) || B31) || B40)) := FA3_at hp 24 42 (by kernel_rfl) rfl rfl
     rcases Bool.eq_false_or_eq_true (((!(S) || B31) || B40)) with e | e
     · rw [e] at h42
       have E := Hi e
       clear e
       unfold Oper.wp
       go_simp
       exact SteppedK.at rfl hd (show (29 : Nat) ≠ 7 by decide) hb.size bR (FA3_of rfl (FU_mk _ rfl (by show (_ : Value) = _; first | (simp only [E.out, Bool.true_or]; done) | simp [E.out]))) FA3_grow
     · rw [e] at h42
       have E := Hi e
       clear e
       have h46 : ac.tmps.getD 46 undef = cond (gon (true) (((!(S) || B31) || B40)) false) (.bool (B46)) undef := FA3_at hp 28 46 (by kernel_rfl) rfl rfl
       rw [gon_mk rfl E.out, cond_true] at h46
       unfold Oper.wp
       go_simp
       exact SteppedK.at rfl hd (show (29 : Nat) ≠ 7 by decide) hb.size bR (FA3_of rfl (FU_mk _ rfl (by show (_ : Value) = _; first | (simp only [E.out, Bool.false_or]; done) | simp [E.out]))) FA3_grow
 intro ac W3 hJ
 have f47 : ac.tmps.getD 47 undef = .bool ((((!(S) || B31) || B40) || B46)) := FU_at (ds := quDescs3 ba ap av lb bc w.heap.size lp cp lv cv zb zp zv S B31 B40 B46) (.val (.bool ((((!(S) || B31) || B40) || B46)))) rfl (FA3_fu rfl (kend hJ 29 47 (fun k => by simp [kl3]) (by kernel_rfl)))
 have bw := hJ.below
 obtain ⟨u18, f18⟩ := exV (ac.tmps.getD 18 undef)
 obtain ⟨u19, f19⟩ := exV (ac.tmps.getD 19 undef)
 obtain ⟨u20, f20⟩ := exV (ac.tmps.getD 20 undef)
 obtain ⟨u21, f21⟩ := exV (ac.tmps.getD 21 undef)
 obtain ⟨u22, f22⟩ := exV (ac.tmps.getD 22 undef)
 obtain ⟨u23, f23⟩ := exV (ac.tmps.getD 23 undef)
 obtain ⟨u24, f24⟩ := exV (ac.tmps.getD 24 undef)
 obtain ⟨u25, f25⟩ := exV (ac.tmps.getD 25 undef)
 obtain ⟨u26, f26⟩ := exV (ac.tmps.getD 26 undef)
 obtain ⟨u27, f27⟩ := exV (ac.tmps.getD 27 undef)
 obtain ⟨u28, f28⟩ := exV (ac.tmps.getD 28 undef)
 obtain ⟨u29, f29⟩ := exV (ac.tmps.getD 29 undef)
 obtain ⟨u30, f30⟩ := exV (ac.tmps.getD 30 undef)
 obtain ⟨u31, f31⟩ := exV (ac.tmps.getD 31 undef)
 obtain ⟨u32, f32⟩ := exV (ac.tmps.getD 32 undef)
 obtain ⟨u33, f33⟩ := exV (ac.tmps.getD 33 undef)
 obtain ⟨u34, f34⟩ := exV (ac.tmps.getD 34 undef)
 obtain ⟨u35, f35⟩ := exV (ac.tmps.getD 35 undef)
 obtain ⟨u36, f36⟩ := exV (ac.tmps.getD 36 undef)
 obtain ⟨u37, f37⟩ := exV (ac.tmps.getD 37 undef)
 obtain ⟨u38, f38⟩ := exV (ac.tmps.getD 38 undef)
 obtain ⟨u39, f39⟩ := exV (ac.tmps.getD 39 undef)
 obtain ⟨u40, f40⟩ := exV (ac.tmps.getD 40 undef)
 obtain ⟨u41, f41⟩ := exV (ac.tmps.getD 41 undef)
 obtain ⟨u42, f42⟩ := exV (ac.tmps.getD 42 undef)
 obtain ⟨u43, f43⟩ := exV (ac.tmps.getD 43 undef)
 obtain ⟨u44, f44⟩ := exV (ac.tmps.getD 44 undef)
 obtain ⟨u45, f45⟩ := exV (ac.tmps.getD 45 undef)
 obtain ⟨u46, f46⟩ := exV (ac.tmps.getD 46 undef)
 obtain ⟨TT, DD⟩ := ac
 obtain rfl : DD = [] := hJ.defers
 have hE := slots_mergeP (List.replicate 18 false ++ List.replicate 30 true ++ List.replicate 53 false) 101 hJ.tmps rfl (by kernel_rfl) hJ.outer
 simp only [List.reduceReplicate, List.cons_append, List.nil_append, mergeFrom, Nat.zero_add, Nat.reduceAdd, f18, f19, f20, f21, f22, f23, f24, f25, f26, f27, f28, f29, f30, f31, f32, f33, f34, f35, f36, f37, f38, f39, f40, f41, f42, f43, f44, f45, f46, f47] at hE
 clear f18 f19 f20 f21 f22 f23 f24 f25 f26 f27 f28 f29 f30 f31 f32 f33 f34 f35 f36 f37 f38 f39 f40 f41 f42 f43 f44 f45 f46 f47
 subst hE
 have HB3 := Hi (HB1.out.trans (bw.mono HB1.out.size))
 clear bw hJ
 refine HK2.out _ _ ?_
 clear HK2
 cases hE : ((((!(S) || B31) || B40) || B46)) with
 | true =>
   go_wp2
   go_ret
   exact ⟨rfl, HB0.out.trans (HB3.out.mono HB0.out.size)⟩
 | false =>
 have hq : S = true ∧ B31 = false ∧ B40 = false ∧ B46 = false := by
   revert hE
   cases S <;> cases B31 <;> cases B40 <;> cases B46 <;> decide
 obtain ⟨hs1, hs2, hs3, hs4⟩ := hq
 have hzb150 : ¬ zb > 150 := of_decide_eq_false (hB31.trans hs2)
 have hzpv : zp = zv := by have := hB40.trans hs3; simpa using this
 have hzp0 : zp ≠ 0 := by have := hB46.trans hs4; simpa using this
 have HSM := Hi (smallV_sum (us := us) (b := b) (by rw [HSS.out, hs1]))
 have HLN := Hi (show lb ≤ 150 by have := HZB.out; omega)
 have hlpv : lv = lp := by have := HZP.out; have := HZV.out; omega
 have hlp1 : 1 ≤ lp := by have := HZP.out; omega
 have HCP : Hid (Tm.countL ps ≤ 150 ∧ Tm.countL vs ≤ 150 ∧ lp ≤ 150 ∧ ∀ x ∈ b, x.2.count ≤ 150) := Hi (by
   have h1 := HSM.out
   rw [← HUS.out, countL_app] at h1
   have h2 := len_countL ps
   have h3 := HLP.out
   exact ⟨by omega, by omega, by omega, fun x hx => by have := sumB_mem hx; omega⟩)
 subst hlpv
 have hpk := pickI_in tn (m := (lv : Int)) (by omega)
 obtain ⟨k, hk⟩ : ∃ k : Nat, pickI tn (lv : Int) = (k : Int) := ⟨(pickI tn lv).toNat, by omega⟩
 rw [hk] at hpk
 have hkl : k < lv := by omega
 have HPK := Hi (show ∀ W, Calls Tryz.prog 11 #[.int .i64 tn, .int .i64 (lv : Int)] W fun e w' => e = .returned (.int .i64 (k : Int)) ∧ W = w' from fun W => by
   have := pick_any tn (lv : Int) (by have := HCP.out.2.2.1; omega) W
   rwa [hk] at this)
 have HKL := Hi (And.intro hlp1 hkl)
 have hl63 : lv ≤ 9223372036854775807 := by have := HCP.out.2.2.1; omega
 have i1 : (0 : Int) ≤ (k : Int) := by omega
 have i2 : (k : Int) ≤ (lv : Int) := by omega
 have i3 : k ≤ lv := by omega
 have hcpv : lv ≤ cp := HLL.out.2.1
 have hcvv : lv ≤ cv := HLL.out.2.2
 have n1 : ¬ cp = k := by omega
 have n2 : ¬ cv = k := by omega
 have i4 : k ≤ cp := by omega
 have i5 : k ≤ cv := by omega
 go_wp2
 clear hE hs1 hs2 hs3 hs4 hzb150 hzpv hzp0 hpk hk hB31 hB40 hB46 HZB HZP HZV HSS HUS hlp1 hkl HSM
 refine HK.out _ _ ?_
 clear HK
 refine wp_seq_k fun K hK => ?_
 have HK := Hi hK
 clear hK
 obtain ⟨_, x1⟩ := FP.out _ HB3.out
 go_wp2_with (go_at_call 11; refine (HPK.out W3).mono ?_; rintro e w' ⟨rfl, rfl⟩)
 clear x1
 refine HK.out _ _ ?_
 clear HK
 refine wp_seq_k fun K hK => ?_
 have HK := Hi hK
 clear hK
 obtain ⟨gp, fp, rfl, hgp, _⟩ := HPA.out W3 HB3.out (by intro e; have h1 := HLP.out; rw [e] at h1; have h2 := HKL.out.1; simp at h1; omega)
 obtain ⟨gv, fv, rfl, hgv, _⟩ := HVA.out W3 HB3.out (by intro e; have h1 := HLV.out; rw [e] at h1; have h2 := HKL.out.1; simp at h1; omega)
 clear hgp hgv HAP HAV
 refine wp_six (.agg #[.string sp, .slice (some ⟨gp, fp, none⟩) lv cp]) (.agg #[.string sv, .slice (some ⟨gv, fv, none⟩) lv cv]) #[.string sp, .slice (some ⟨gp, fp, none⟩) lv cp] #[.string sv, .slice (some ⟨gv, fv, none⟩) lv cv] #[.string ⟨#[]⟩, .slice none 0 0] 47 (by kernel_rfl) (by kernel_rfl) rfl rfl ?_ ?_
 · refine ⟨?_, ?_, ?_, ?_, ?_, ?_, trivial⟩
   · intro l ac wx hJ hil hie
     refine ⟨rfl, ?_⟩
     have h4 : ac.tmps.getD 4 undef = .pointer (some ⟨w.heap.size, 0, none⟩) := (hJ.out 4 (by decide) (by decide) (by decide) (by decide)).trans rfl
     obtain ⟨x0, x1⟩ := FP.out wx (HB3.out.trans (hJ.below.mono HB3.out.size))
     unfold Oper.wp
     go_simp
     exact hJ.load0 (by show (55 : Nat) ≤ 101; omega)
   · intro l ac wx hJ hil hie
     refine ⟨rfl, ?_⟩
     have h5 : ac.tmps.getD 5 undef = .pointer (some ⟨w.heap.size + 1, 0, none⟩) := (hJ.out 5 (by decide) (by decide) (by decide) (by decide)).trans rfl
     obtain ⟨x0, x1⟩ := FV.out wx (HB3.out.trans (hJ.below.mono HB3.out.size))
     unfold Oper.wp
     go_simp
     exact hJ.load1 (by show (55 : Nat) ≤ 101; omega)
   · intro l ac wx hJ hil hie
     refine ⟨rfl, ?_⟩
     unfold Oper.wp
     go_simp
     exact hJ.alloc2 (by show (55 : Nat) ≤ 101; omega) (by rw [← getD_true_false (by rw [hJ.sz]; decide)]; exact hil)
   · intro l ac wx hJ hil hie
     refine ⟨rfl, ?_⟩
     unfold Oper.wp
     go_simp
     exact hJ.alloc3 (by show (55 : Nat) ≤ 101; omega) (by rw [← getD_true_false (by rw [hJ.sz]; decide)]; exact hil)
   · intro l ac wx hJ hil hie
     refine ⟨rfl, ?_⟩
     have l2 := hie ⟨2, .data⟩ (by simp) rfl
     have l0 := hie ⟨0, .data⟩ (by simp) rfl
     have l4 : l.getD 4 false = false := by rw [← getD_true_false (by rw [hJ.sz]; decide)]; exact hil
     obtain ⟨q, h10, hqb, hc⟩ := hJ.s2 l2
     rw [l4, if_neg (by decide)] at hc
     have h53 := hJ.s0 l0
     have x0 := cells_at hc 0 _ rfl
     have x1 := cells_at hc 1 _ rfl
     have z0 := frozen_of_row wx q 0 _ _ hc
     have z1 := frozen_of_row wx q 1 _ _ hc
     have HS := Hi (And.intro hc (And.intro l2 hqb))
     have HJ := Hi hJ
     have H10 := Hi h10
     clear hc l2 l0 l4 hqb hie hil hJ
     unfold Oper.wp
     go_simp
     obtain ⟨W', hW', e1, e2, _, e4⟩ := setAtom wx q _ _ (.string sp) (.slice (some ⟨gp, fp, none⟩) lv cp) _ HS.out.1
     rw [hW']
     exact HJ.out.store4 HS.out.2.1 H10.out HS.out.2.2 e1 e2 e4
   · intro l ac wx hJ hil hie
     refine ⟨rfl, ?_⟩
     have l2 := hie ⟨3, .data⟩ (by simp) rfl
     have l0 := hie ⟨1, .data⟩ (by simp) rfl
     have l4 : l.getD 5 false = false := by rw [← getD_true_false (by rw [hJ.sz]; decide)]; exact hil
     obtain ⟨q, h11, hqb, hc⟩ := hJ.s3 l2
     rw [l4, if_neg (by decide)] at hc
     have h54 := hJ.s1 l0
     have x0 := cells_at hc 0 _ rfl
     have x1 := cells_at hc 1 _ rfl
     have z0 := frozen_of_row wx q 0 _ _ hc
     have z1 := frozen_of_row wx q 1 _ _ hc
     have HS := Hi (And.intro hc (And.intro l2 hqb))
     have HJ := Hi hJ
     have H11 := Hi h11
     clear hc l2 l0 l4 hqb hie hil hJ
     unfold Oper.wp
     go_simp
     obtain ⟨W', hW', e1, e2, _, e4⟩ := setAtom wx q _ _ (.string sv) (.slice (some ⟨gv, fv, none⟩) lv cv) _ HS.out.1
     rw [hW']
     exact HJ.out.store5 HS.out.2.1 H11.out HS.out.2.2 e1 e2 e4
 intro ac W6 hJ
 obtain ⟨q1, f10, hb10, hc10⟩ := hJ.s2 rfl
 obtain ⟨q2, f11, hb11, hc11⟩ := hJ.s3 rfl
 rw [if_pos (show (Array.replicate 6 true).getD 4 false = true from rfl)] at hc10
 rw [if_pos (show (Array.replicate 6 true).getD 5 false = true from rfl)] at hc11
 have hne : q1 ≠ q2 := fun e => hJ.ne rfl rfl (by rw [f10, f11, e])
 have bw := hJ.below
 have houter : ∀ t, (!(t == 10 || t == 11 || t == 53 || t == 54)) = true → _ := fun t ht => hJ.out t (fun e => by subst e; cases ht) (fun e => by subst e; cases ht) (fun e => by subst e; cases ht) (fun e => by subst e; cases ht)
 obtain ⟨u53, f53⟩ := exV (ac.tmps.getD 53 undef)
 obtain ⟨u54, f54⟩ := exV (ac.tmps.getD 54 undef)
 obtain ⟨TT, DD⟩ := ac
 obtain rfl : DD = [] := hJ.df
 have hE := slots_mergeP (List.replicate 10 false ++ List.replicate 2 true ++ List.replicate 41 false ++ List.replicate 2 true ++ List.replicate 46 false) 101 hJ.ts rfl (by kernel_rfl) houter
 simp only [List.reduceReplicate, List.cons_append, List.nil_append, mergeFrom, Nat.zero_add, Nat.reduceAdd, f10, f11, f53, f54] at hE
 clear f10 f11 f53 f54
 subst hE
 have HB6 := Hi (HB3.out.trans (bw.mono HB3.out.size))
 have HQ1 := Hi (And.intro hc10 (Nat.le_trans HB3.out.size hb10))
 have HQ2 := Hi (And.intro hc11 (Nat.le_trans HB3.out.size hb11))
 have HNE := Hi hne
 clear bw hJ hc10 hc11 hb10 hb11 hne houter
 refine HK.out _ _ ?_
 clear HK
 refine wp_seq_k fun K hK => ?_
 have HK := Hi hK
 clear hK
 refine wp_region_kill_tail (by kernel_rfl) 11 10 _ (Nat.le_refl _) (by decide) kl7 (FA7 W6.heap.size (lv - k) k (xs.drop (k * 4)) (xs.take (k * 4)) (quDescs7 w.heap.size k q1 lv cp gp fp)) (by kernel_rfl) (by kernel_rfl) (by kernel_rfl) (steps_toK ?_) ?_ (fun i j hj => by unfold kl7; rw [show (j == 10) = false by simpa using (by omega : j ≠ 10), show (j == 5) = false by simpa using (by omega : j ≠ 5)]; rfl)
 · simp only [List.take_succ_cons, List.take_zero]
   refine ⟨?_, ?_, ?_, ?_, ?_, ?_, ?_, ?_, ?_, ?_, ?_, trivial⟩
   · intro ac wx hb he hd hs ho hp
     refine ⟨rfl, ?_⟩
     unfold Oper.wp
     go_simp
     exact SteppedK.at rfl hd (show (0 : Nat) ≠ 10 by decide) hb.size (bR.alloc (Nat.le_refl _) _) ⟨_, rfl, World.ownsRow_lit wx #[] 0 hb.size (by unfold maxLen; omega) rfl⟩ FA7_grow
   · intro ac wx hb he hd hs ho hp
     refine ⟨rfl, ?_⟩
     have h4 : ac.tmps.getD 4 undef = .pointer (some ⟨w.heap.size, 0, none⟩) := (ho 4 (by kernel_rfl)).trans rfl
     unfold Oper.wp
     go_simp
     exact SteppedK.at (v := .pointer (some ⟨w.heap.size, 1, none⟩)) (by first | rfl | simp) hd (show (1 : Nat) ≠ 10 by decide) hb.size bR (FA7_of rfl (FU_mk _ rfl rfl)) FA7_grow
   · intro ac wx hb he hd hs ho hp
     refine ⟨rfl, ?_⟩
     have h56 : ac.tmps.getD 56 undef = .pointer (some ⟨w.heap.size, 1, none⟩) := FA7_at hp 1 56 (by kernel_rfl) rfl rfl
     obtain ⟨_, x1⟩ := FP.out wx (HB6.out.trans (hb.mono HB6.out.size))
     unfold Oper.wp
     go_simp
     exact SteppedK.at (v := .slice (some ⟨gp, fp, none⟩) lv cp) (by first | rfl | simp) hd (show (2 : Nat) ≠ 10 by decide) hb.size bR (FA7_of rfl (FU_mk _ rfl rfl)) FA7_grow
   · intro ac wx hb he hd hs ho hp
     refine ⟨rfl, ?_⟩
     have h9 : ac.tmps.getD 9 undef = .int .i64 k := (ho 9 (by kernel_rfl)).trans rfl
     unfold Oper.wp
     go_simp
     exact SteppedK.at (v := .int .i64 k) (by first | rfl | simp) hd (show (3 : Nat) ≠ 10 by decide) hb.size bR (FA7_of rfl (FU_mk _ rfl rfl)) FA7_grow
   · intro ac wx hb he hd hs ho hp
     refine ⟨rfl, ?_⟩
     have h57 : ac.tmps.getD 57 undef = .slice (some ⟨gp, fp, none⟩) lv cp := FA7_at hp 2 57 (by kernel_rfl) rfl rfl
     have h58 : ac.tmps.getD 58 undef = .int .i64 k := FA7_at hp 3 58 (by kernel_rfl) rfl rfl
     unfold Oper.wp
     go_simp
     exact SteppedK.at (v := .slice (some ⟨gp, fp + k * 4, none⟩) (lv - k) (cp - k)) (by first | rfl | simp) hd (show (4 : Nat) ≠ 10 by decide) hb.size bR (FA7_of rfl (FU_mk _ rfl rfl)) FA7_grow
   · intro ac wx hb he hd hs ho hp
     refine ⟨rfl, ?_⟩
     obtain ⟨g0, h0, hO⟩ : ∃ g0, ac.tmps.getD 55 undef = .slice (some ⟨g0, 0, none⟩) 0 0 ∧ wx.ownsRow W6.heap.size 24 4 (ac.tmps.getD 55 undef) 0 [] := facts_at hp 0 55 (by kernel_rfl)
     rw [h0] at hO
     have h59 : ac.tmps.getD 59 undef = .slice (some ⟨gp, fp + k * 4, none⟩) (lv - k) (cp - k) := FA7_at hp 4 59 (by kernel_rfl) rfl rfl
     obtain ⟨v', w', hrun, hown, hgr⟩ := append_fresh wx W6.heap.size _ g0 (some ⟨gp, fp + k * 4, none⟩) (lv - k) (cp - k) (xs.drop (k * 4)) (by rw [List.length_drop, HXL.out]; have := HKL.out; omega) (fun e => by cases e) (fun ad e j u hj => by cases e; have := HXC.out wx (HB6.out.trans (hb.mono HB6.out.size)) _ rfl (k * 4 + j) u (by rw [← hj, List.getElem?_drop]); rw [Addr.add_lit] at this ⊢; rwa [← Nat.add_assoc] at this) (by have := HCP.out.2.2.1; omega) hb.size hO
     refine wp_append (.tmp 55) (.tmp 59) _ rfl ((Act.eval_tmp _ _).trans h0) ((Act.eval_tmp _ _).trans h59) hrun ?_
     have hbb : Below wx.heap.size wx w' := bR.grown hgr (Nat.le_refl _) (fun k e => by cases e)
     exact ⟨v', rfl, hbb.mono hb.size, fun _ _ => hown, fun j u _ _ _ h => FA7_grow j u _ _ h hbb⟩
   · intro ac wx hb he hd hs ho hp
     refine ⟨rfl, ?_⟩
     have h4 : ac.tmps.getD 4 undef = .pointer (some ⟨w.heap.size, 0, none⟩) := (ho 4 (by kernel_rfl)).trans rfl
     unfold Oper.wp
     go_simp
     exact SteppedK.at (v := .pointer (some ⟨w.heap.size, 1, none⟩)) (by first | rfl | simp) hd (show (6 : Nat) ≠ 10 by decide) hb.size bR (FA7_of rfl (FU_mk _ rfl rfl)) FA7_grow
   · intro ac wx hb he hd hs ho hp
     refine ⟨rfl, ?_⟩
     have h61 : ac.tmps.getD 61 undef = .pointer (some ⟨w.heap.size, 1, none⟩) := FA7_at hp 6 61 (by kernel_rfl) rfl rfl
     obtain ⟨_, x1⟩ := FP.out wx (HB6.out.trans (hb.mono HB6.out.size))
     unfold Oper.wp
     go_simp
     exact SteppedK.at (v := .slice (some ⟨gp, fp, none⟩) lv cp) (by first | rfl | simp) hd (show (7 : Nat) ≠ 10 by decide) hb.size bR (FA7_of rfl (FU_mk _ rfl rfl)) FA7_grow
   · intro ac wx hb he hd hs ho hp
     refine ⟨rfl, ?_⟩
     have h9 : ac.tmps.getD 9 undef = .int .i64 k := (ho 9 (by kernel_rfl)).trans rfl
     unfold Oper.wp
     go_simp
     exact SteppedK.at (v := .int .i64 k) (by first | rfl | simp) hd (show (8 : Nat) ≠ 10 by decide) hb.size bR (FA7_of rfl (FU_mk _ rfl rfl)) FA7_grow
   · intro ac wx hb he hd hs ho hp
     refine ⟨rfl, ?_⟩
     have h62 : ac.tmps.getD 62 undef = .slice (some ⟨gp, fp, none⟩) lv cp := FA7_at hp 7 62 (by kernel_rfl) rfl rfl
     have h63 : ac.tmps.getD 63 undef = .int .i64 k := FA7_at hp 8 63 (by kernel_rfl) rfl rfl
     unfold Oper.wp
     go_simp
     exact SteppedK.at (v := .slice (some ⟨gp, fp, none⟩) k cp) (by first | rfl | simp) hd (show (9 : Nat) ≠ 10 by decide) hb.size bR (FA7_of rfl (FU_mk _ rfl rfl)) FA7_grow
   · intro ac wx hb he hd hs ho hp
     refine ⟨rfl, ?_⟩
     have h5 : wx.ownsRow W6.heap.size 24 4 (ac.tmps.getD 60 undef) (lv - k) (xs.drop (k * 4)) := facts_at hp 5 60 (by kernel_rfl)
     obtain ⟨u5, e5⟩ : ∃ u, ac.tmps.getD 60 undef = u := ⟨_, rfl⟩
     rw [e5] at h5
     have h64 : ac.tmps.getD 64 undef = .slice (some ⟨gp, fp, none⟩) k cp := FA7_at hp 9 64 (by kernel_rfl) rfl rfl
     obtain ⟨v', w', hrun, hown, hgr⟩ := append_more wx W6.heap.size _ u5 (lv - k) (xs.drop (k * 4)) (some ⟨gp, fp, none⟩) k cp (xs.take (k * 4)) (by rw [List.length_take, HXL.out]; have := HKL.out; omega) (fun e => by cases e) (fun ad e j u hj => by cases e; exact HXC.out wx (HB6.out.trans (hb.mono HB6.out.size)) _ rfl j u (by rw [List.getElem?_take] at hj; split at hj <;> first | exact hj | cases hj)) (fun u hu => HX.out.one' u (List.mem_of_mem_take hu)) (by have := HCP.out.2.2.1; have := HKL.out; omega) hb.size h5
     refine wp_append (.tmp 60) (.tmp 64) _ rfl ((Act.eval_tmp _ _).trans e5) ((Act.eval_tmp _ _).trans h64) hrun ?_
     have hbb : Below W6.heap.size wx w' := bR.grown hgr hb.size (fun k e => (h5.lt k e).1)
     exact ⟨v', rfl, by rw [if_pos rfl]; exact hbb, fun _ _ => hown, fun j u hj hk _ h => FA7_keep (fun e => by subst e; cases (show true = false from hk)) (fun e => by subst e; cases (show true = false from hk)) hj h⟩
 intro ac wz hbz hd hs2 ho2 hf
 have hrow : wz.ownsRow W6.heap.size 24 4 (ac.tmps.getD 65 undef) (lv - k + k) (xs.drop (k * 4) ++ xs.take (k * 4)) := facts_toK hf 10 65 (by decide) (fun j _ => by simp [kl7]) (by kernel_rfl)
 obtain ⟨raa, ran, rac, f65⟩ := ownSlice hrow
 rw [f65] at hrow
 obtain ⟨u55, f55⟩ := exV (ac.tmps.getD 55 undef)
 obtain ⟨u56, f56⟩ := exV (ac.tmps.getD 56 undef)
 obtain ⟨u57, f57⟩ := exV (ac.tmps.getD 57 undef)
 obtain ⟨u58, f58⟩ := exV (ac.tmps.getD 58 undef)
 obtain ⟨u59, f59⟩ := exV (ac.tmps.getD 59 undef)
 obtain ⟨u60, f60⟩ := exV (ac.tmps.getD 60 undef)
 obtain ⟨u61, f61⟩ := exV (ac.tmps.getD 61 undef)
 obtain ⟨u62, f62⟩ := exV (ac.tmps.getD 62 undef)
 obtain ⟨u63, f63⟩ := exV (ac.tmps.getD 63 undef)
 obtain ⟨u64, f64⟩ := exV (ac.tmps.getD 64 undef)
 obtain ⟨TT, DD⟩ := ac
 obtain rfl : DD = [] := hd
 have hE := slots_mergeP (List.replicate 55 false ++ List.replicate 11 true ++ List.replicate 35 false) 101 hs2 rfl (by kernel_rfl) ho2
 simp only [List.reduceReplicate, List.cons_append, List.nil_append, mergeFrom, Nat.zero_add, Nat.reduceAdd, f55, f56, f57, f58, f59, f60, f61, f62, f63, f64, f65] at hE
 clear f55 f56 f57 f58 f59 f60 f61 f62 f63 f64 f65
 subst hE
 simp only [List.drop_succ_cons, List.drop_zero]
 have hlt := (gL HQ1.out.1)
 have hlto := (gL HQ2.out.1)
 have hpz := (hbz.block q1 hlt).trans HQ1.out.1
 have hpo := (hbz.block q2 hlto).trans HQ2.out.1
 have p1 := cells_at hpz 1 _ rfl
 have p2 := frozen_of_row wz q1 1 _ _ hpz
 have HZ := Hi (And.intro hpz (And.intro hpo (And.intro hrow (And.intro hbz (And.intro hlt hlto)))))
 clear hpz hpo hrow hbz hlt hlto hf
 go_wp2
 obtain ⟨W7, hW7⟩ : ∃ W, wz.setCell ⟨q1, 1, none⟩ (.slice raa ran rac) = W := ⟨_, rfl⟩
 rw [hW7]
 have hkp : ∀ j, j ≠ q1 → W7.heap[j]? = wz.heap[j]? := fun j hj => by rw [← hW7]; exact Below.heap_setCell _ _ _ j (by simpa using hj)
 have hse : W7.heap[q1]? = some (.cells #[.string sp, .slice raa ran rac] 47 (0, 0)) := by
   rw [← hW7, setCell_eq_setRow wz q1 1 _ _ (0, 0) (.slice raa ran rac) HZ.out.1]
   exact setRow_heap wz q1 _ _ _ _ HZ.out.1
 have hbq : Below W0.heap.size W0 W7 := by
   rw [← hW7]
   exact (HB6.out.trans (HZ.out.2.2.2.1.mono HB6.out.size)).setCell (p := ⟨q1, 1, none⟩) HQ1.out.2 _
 have HB7 := Hi hbq
 have raR := Hi (own_keep HZ.out.2.2.1 fun j e => hkp j (by have := (HZ.out.2.2.1.lt j e).1; have := HZ.out.2.2.2.2.1; omega))
 have HLT := Hi HZ.out.2.2.2.2.2
 have HQ1n := Hi (And.intro hse HQ1.out.2)
 have HQ2n := Hi (And.intro ((hkp q2 (fun e => HNE.out (e.symm))).trans HZ.out.2.1) HQ2.out.2)
 clear HQ1 HQ2 HZ hse hkp hbq hW7 p1 p2
 refine HK.out _ _ ?_
 clear HK
 refine wp_seq_k fun K hK => ?_
 have HK := Hi hK
 clear hK
 refine wp_region_kill_tail (by kernel_rfl) 11 10 _ (Nat.le_refl _) (by decide) kl7 (FA7 W7.heap.size (lv - k) k (ys.drop (k * 4)) (ys.take (k * 4)) (quDescs7 (w.heap.size + 1) k q2 lv cv gv fv)) (by kernel_rfl) (by kernel_rfl) (by kernel_rfl) (steps_toK ?_) ?_ (fun i j hj => by unfold kl7; rw [show (j == 10) = false by simpa using (by omega : j ≠ 10), show (j == 5) = false by simpa using (by omega : j ≠ 5)]; rfl)
 · simp only [List.take_succ_cons, List.take_zero]
   refine ⟨?_, ?_, ?_, ?_, ?_, ?_, ?_, ?_, ?_, ?_, ?_, trivial⟩
   · intro ac wx hb he hd hs ho hp
     refine ⟨rfl, ?_⟩
     unfold Oper.wp
     go_simp
     exact SteppedK.at rfl hd (show (0 : Nat) ≠ 10 by decide) hb.size (bR.alloc (Nat.le_refl _) _) ⟨_, rfl, World.ownsRow_lit wx #[] 0 hb.size (by unfold maxLen; omega) rfl⟩ FA7_grow
   · intro ac wx hb he hd hs ho hp
     refine ⟨rfl, ?_⟩
     have h5 : ac.tmps.getD 5 undef = .pointer (some ⟨w.heap.size + 1, 0, none⟩) := (ho 5 (by kernel_rfl)).trans rfl
     unfold Oper.wp
     go_simp
     exact SteppedK.at (v := .pointer (some ⟨w.heap.size + 1, 1, none⟩)) (by first | rfl | simp) hd (show (1 : Nat) ≠ 10 by decide) hb.size bR (FA7_of rfl (FU_mk _ rfl rfl)) FA7_grow
   · intro ac wx hb he hd hs ho hp
     refine ⟨rfl, ?_⟩
     have h68 : ac.tmps.getD 68 undef = .pointer (some ⟨w.heap.size + 1, 1, none⟩) := FA7_at hp 1 68 (by kernel_rfl) rfl rfl
     obtain ⟨_, x1⟩ := FV.out wx (HB7.out.trans (hb.mono HB7.out.size))
     unfold Oper.wp
     go_simp
     exact SteppedK.at (v := .slice (some ⟨gv, fv, none⟩) lv cv) (by first | rfl | simp) hd (show (2 : Nat) ≠ 10 by decide) hb.size bR (FA7_of rfl (FU_mk _ rfl rfl)) FA7_grow
   · intro ac wx hb he hd hs ho hp
     refine ⟨rfl, ?_⟩
     have h9 : ac.tmps.getD 9 undef = .int .i64 k := (ho 9 (by kernel_rfl)).trans rfl
     unfold Oper.wp
     go_simp
     exact SteppedK.at (v := .int .i64 k) (by first | rfl | simp) hd (show (3 : Nat) ≠ 10 by decide) hb.size bR (FA7_of rfl (FU_mk _ rfl rfl)) FA7_grow
   · intro ac wx hb he hd hs ho hp
     refine ⟨rfl, ?_⟩
     have h69 : ac.tmps.getD 69 undef = .slice (some ⟨gv, fv, none⟩) lv cv := FA7_at hp 2 69 (by kernel_rfl) rfl rfl
     have h70 : ac.tmps.getD 70 undef = .int .i64 k := FA7_at hp 3 70 (by kernel_rfl) rfl rfl
     unfold Oper.wp
     go_simp
     exact SteppedK.at (v := .slice (some ⟨gv, fv + k * 4, none⟩) (lv - k) (cv - k)) (by first | rfl | simp) hd (show (4 : Nat) ≠ 10 by decide) hb.size bR (FA7_of rfl (FU_mk _ rfl rfl)) FA7_grow
   · intro ac wx hb he hd hs ho hp
     refine ⟨rfl, ?_⟩
     obtain ⟨g0, h0, hO⟩ : ∃ g0, ac.tmps.getD 67 undef = .slice (some ⟨g0, 0, none⟩) 0 0 ∧ wx.ownsRow W7.heap.size 24 4 (ac.tmps.getD 67 undef) 0 [] := facts_at hp 0 67 (by kernel_rfl)
     rw [h0] at hO
     have h71 : ac.tmps.getD 71 undef = .slice (some ⟨gv, fv + k * 4, none⟩) (lv - k) (cv - k) := FA7_at hp 4 71 (by kernel_rfl) rfl rfl
     obtain ⟨v', w', hrun, hown, hgr⟩ := append_fresh wx W7.heap.size _ g0 (some ⟨gv, fv + k * 4, none⟩) (lv - k) (cv - k) (ys.drop (k * 4)) (by rw [List.length_drop, HYL.out]; have := HKL.out; omega) (fun e => by cases e) (fun ad e j u hj => by cases e; have := HYC.out wx (HB7.out.trans (hb.mono HB7.out.size)) _ rfl (k * 4 + j) u (by rw [← hj, List.getElem?_drop]); rw [Addr.add_lit] at this ⊢; rwa [← Nat.add_assoc] at this) (by have := HCP.out.2.2.1; omega) hb.size hO
     refine wp_append (.tmp 67) (.tmp 71) _ rfl ((Act.eval_tmp _ _).trans h0) ((Act.eval_tmp _ _).trans h71) hrun ?_
     have hbb : Below wx.heap.size wx w' := bR.grown hgr (Nat.le_refl _) (fun k e => by cases e)
     exact ⟨v', rfl, hbb.mono hb.size, fun _ _ => hown, fun j u _ _ _ h => FA7_grow j u _ _ h hbb⟩
   · intro ac wx hb he hd hs ho hp
     refine ⟨rfl, ?_⟩
     have h5 : ac.tmps.getD 5 undef = .pointer (some ⟨w.heap.size + 1, 0, none⟩) := (ho 5 (by kernel_rfl)).trans rfl
     unfold Oper.wp
     go_simp
     exact SteppedK.at (v := .pointer (some ⟨w.heap.size + 1, 1, none⟩)) (by first | rfl | simp) hd (show (6 : Nat) ≠ 10 by decide) hb.size bR (FA7_of rfl (FU_mk _ rfl rfl)) FA7_grow
   · intro ac wx hb he hd hs ho hp
     refine ⟨rfl, ?_⟩
     have h73 : ac.tmps.getD 73 undef = .pointer (some ⟨w.heap.size + 1, 1, none⟩) := FA7_at hp 6 73 (by kernel_rfl) rfl rfl
     obtain ⟨_, x1⟩ := FV.out wx (HB7.out.trans (hb.mono HB7.out.size))
     unfold Oper.wp
     go_simp
     exact SteppedK.at (v := .slice (some ⟨gv, fv, none⟩) lv cv) (by first | rfl | simp) hd (show (7 : Nat) ≠ 10 by decide) hb.size bR (FA7_of rfl (FU_mk _ rfl rfl)) FA7_grow
   · intro ac wx hb he hd hs ho hp
     refine ⟨rfl, ?_⟩
     have h9 : ac.tmps.getD 9 undef = .int .i64 k := (ho 9 (by kernel_rfl)).trans rfl
     unfold Oper.wp
     go_simp
     exact SteppedK.at (v := .int .i64 k) (by first | rfl | simp) hd (show (8 : Nat) ≠ 10 by decide) hb.size bR (FA7_of rfl (FU_mk _ rfl rfl)) FA7_grow
   · intro ac wx hb he hd hs ho hp
     refine ⟨rfl, ?_⟩
     have h74 : ac.tmps.getD 74 undef = .slice (some ⟨gv, fv, none⟩) lv cv := FA7_at hp 7 74 (by kernel_rfl) rfl rfl
     have h75 : ac.tmps.getD 75 undef = .int .i64 k := FA7_at hp 8 75 (by kernel_rfl) rfl rfl
     unfold Oper.wp
     go_simp
     exact SteppedK.at (v := .slice (some ⟨gv, fv, none⟩) k cv) (by first | rfl | simp) hd (show (9 : Nat) ≠ 10 by decide) hb.size bR (FA7_of rfl (FU_mk _ rfl rfl)) FA7_grow
   · intro ac wx hb he hd hs ho hp
     refine ⟨rfl, ?_⟩
     have h5 : wx.ownsRow W7.heap.size 24 4 (ac.tmps.getD 72 undef) (lv - k) (ys.drop (k * 4)) := facts_at hp 5 72 (by kernel_rfl)
     obtain ⟨u5, e5⟩ : ∃ u, ac.tmps.getD 72 undef = u := ⟨_, rfl⟩
     rw [e5] at h5
     have h76 : ac.tmps.getD 76 undef = .slice (some ⟨gv, fv, none⟩) k cv := FA7_at hp 9 76 (by kernel_rfl) rfl rfl
     obtain ⟨v', w', hrun, hown, hgr⟩ := append_more wx W7.heap.size _ u5 (lv - k) (ys.drop (k * 4)) (some ⟨gv, fv, none⟩) k cv (ys.take (k * 4)) (by rw [List.length_take, HYL.out]; have := HKL.out; omega) (fun e => by cases e) (fun ad e j u hj => by cases e; exact HYC.out wx (HB7.out.trans (hb.mono HB7.out.size)) _ rfl j u (by rw [List.getElem?_take] at hj; split at hj <;> first | exact hj | cases hj)) (fun u hu => HY.out.one' u (List.mem_of_mem_take hu)) (by have := HCP.out.2.2.1; have := HKL.out; omega) hb.size h5
     refine wp_append (.tmp 72) (.tmp 76) _ rfl ((Act.eval_tmp _ _).trans e5) ((Act.eval_tmp _ _).trans h76) hrun ?_
     have hbb : Below W7.heap.size wx w' := bR.grown hgr hb.size (fun k e => (h5.lt k e).1)
     exact ⟨v', rfl, by rw [if_pos rfl]; exact hbb, fun _ _ => hown, fun j u hj hk _ h => FA7_keep (fun e => by subst e; cases (show true = false from hk)) (fun e => by subst e; cases (show true = false from hk)) hj h⟩
 intro ac wz hbz hd hs2 ho2 hf
 have hrow : wz.ownsRow W7.heap.size 24 4 (ac.tmps.getD 77 undef) (lv - k + k) (ys.drop (k * 4) ++ ys.take (k * 4)) := facts_toK hf 10 77 (by decide) (fun j _ => by simp [kl7]) (by kernel_rfl)
 obtain ⟨rba, rbn, rbc, f77⟩ := ownSlice hrow
 rw [f77] at hrow
 obtain ⟨u67, f67⟩ := exV (ac.tmps.getD 67 undef)
 obtain ⟨u68, f68⟩ := exV (ac.tmps.getD 68 undef)
 obtain ⟨u69, f69⟩ := exV (ac.tmps.getD 69 undef)
 obtain ⟨u70, f70⟩ := exV (ac.tmps.getD 70 undef)
 obtain ⟨u71, f71⟩ := exV (ac.tmps.getD 71 undef)
 obtain ⟨u72, f72⟩ := exV (ac.tmps.getD 72 undef)
 obtain ⟨u73, f73⟩ := exV (ac.tmps.getD 73 undef)
 obtain ⟨u74, f74⟩ := exV (ac.tmps.getD 74 undef)
 obtain ⟨u75, f75⟩ := exV (ac.tmps.getD 75 undef)
 obtain ⟨u76, f76⟩ := exV (ac.tmps.getD 76 undef)
 obtain ⟨TT, DD⟩ := ac
 obtain rfl : DD = [] := hd
 have hE := slots_mergeP (List.replicate 67 false ++ List.replicate 11 true ++ List.replicate 23 false) 101 hs2 rfl (by kernel_rfl) ho2
 simp only [List.reduceReplicate, List.cons_append, List.nil_append, mergeFrom, Nat.zero_add, Nat.reduceAdd, f67, f68, f69, f70, f71, f72, f73, f74, f75, f76, f77] at hE
 clear f67 f68 f69 f70 f71 f72 f73 f74 f75 f76 f77
 subst hE
 simp only [List.drop_succ_cons, List.drop_zero]
 have hlt := (gL HQ2n.out.1)
 have hlto := (gL HQ1n.out.1)
 have hpz := (hbz.block q2 hlt).trans HQ2n.out.1
 have hpo := (hbz.block q1 hlto).trans HQ1n.out.1
 have p1 := cells_at hpz 1 _ rfl
 have p2 := frozen_of_row wz q2 1 _ _ hpz
 have HZ := Hi (And.intro hpz (And.intro hpo (And.intro hrow (And.intro hbz (And.intro hlt hlto)))))
 clear hpz hpo hrow hbz hlt hlto hf
 go_wp2
 obtain ⟨W8, hW7⟩ : ∃ W, wz.setCell ⟨q2, 1, none⟩ (.slice rba rbn rbc) = W := ⟨_, rfl⟩
 rw [hW7]
 have hkp : ∀ j, j ≠ q2 → W8.heap[j]? = wz.heap[j]? := fun j hj => by rw [← hW7]; exact Below.heap_setCell _ _ _ j (by simpa using hj)
 have hse : W8.heap[q2]? = some (.cells #[.string sv, .slice rba rbn rbc] 47 (0, 0)) := by
   rw [← hW7, setCell_eq_setRow wz q2 1 _ _ (0, 0) (.slice rba rbn rbc) HZ.out.1]
   exact setRow_heap wz q2 _ _ _ _ HZ.out.1
 have hbq : Below W0.heap.size W0 W8 := by
   rw [← hW7]
   exact (HB7.out.trans (HZ.out.2.2.2.1.mono HB7.out.size)).setCell (p := ⟨q2, 1, none⟩) HQ2n.out.2 _
 have HB8 := Hi hbq
 have rbR := Hi (own_keep HZ.out.2.2.1 fun j e => hkp j (by have := (HZ.out.2.2.1.lt j e).1; have := HZ.out.2.2.2.2.1; omega))
 have raR8 := Hi (own_keep (own_grown raR.out HZ.out.2.2.2.1) fun j e => hkp j (by have := (raR.out.lt j e).1; have := HLT.out; omega))
 have HQ2nn := Hi (And.intro hse HQ2n.out.2)
 have HQ1nn := Hi (And.intro ((hkp q1 (fun e => HNE.out (e))).trans HZ.out.2.1) HQ1n.out.2)
 clear HQ2n HQ1n HZ hse hkp hbq hW7 p1 p2
 refine HK.out _ _ ?_
 clear HK
 clear i1 i2 i3 i4 i5 n1 n2 hcpv hcvv hl63 hlb63
 have HHB : Hid (Below w.heap.size w W8) := Hi (HB0.out.trans (HB8.out.mono HB0.out.size))
 have hxs := HX.out.split k
 have hys := HY.out.split k
 have hln : (ps.drop k ++ ps.take k).length = lv - k + k := by rw [List.length_append, List.length_drop, List.length_take, HLP.out]; have := HKL.out; omega
 have hlm : (vs.drop k ++ vs.take k).length = lv - k + k := by rw [List.length_append, List.length_drop, List.length_take, HLV.out]; have := HKL.out; omega
 have hlk : lv - k + k = lv := by have := HKL.out; omega
 have hr1 := old_row (w0 := w) (w := W8) (hxs.2.append hxs.1) (by rw [hln]; exact raR8.out) HHB.out
 have hr2 := old_row (w0 := w) (w := W8) (hys.2.append hys.1) (by rw [hlm]; exact rbR.out) HHB.out
 obtain ⟨ga, gc, e1, _, hga⟩ := hr1
 obtain ⟨ha, hc, e2, _, hha⟩ := hr2
 simp only [Value.slice.injEq] at e1 e2
 obtain ⟨rfl, rfl, rfl⟩ := e1
 obtain ⟨rfl, rfl, rfl⟩ := e2
 have HRA := Hi (fun (W : World) (hW : Below W8.heap.size W8 W) (h : ps.drop k ++ ps.take k ≠ []) => show ∃ g off, raa = some ⟨g, off, none⟩ ∧ g < W.heap.size ∧ IsTms W.heap.size W g off (ps.drop k ++ ps.take k) by
   obtain ⟨g, off, q1, q2, q3⟩ := hga h
   exact ⟨g, off, q1, Nat.lt_of_lt_of_le q2 hW.size, (q3.below hW q2).mono hW.size⟩)
 have HRB := Hi (fun (W : World) (hW : Below W8.heap.size W8 W) (h : vs.drop k ++ vs.take k ≠ []) => show ∃ g off, rba = some ⟨g, off, none⟩ ∧ g < W.heap.size ∧ IsTms W.heap.size W g off (vs.drop k ++ vs.take k) by
   obtain ⟨g, off, q1, q2, q3⟩ := hha h
   exact ⟨g, off, q1, Nat.lt_of_lt_of_le q2 hW.size, (q3.below hW q2).mono hW.size⟩)
 have hmt : (if sp = sv then matchL (ps.drop k ++ ps.take k) (vs.drop k ++ vs.take k) b else none) = if sp = sv then matchL ps vs b else none := by
   have h := match_turned (ps := ps.take k) (qs := ps.drop k) (vs := vs.take k) (us := vs.drop k) (b := b) (by rw [List.length_take, List.length_take, HLP.out, HLV.out]) (by rw [List.length_drop, List.length_drop, HLP.out, HLV.out])
   rw [List.take_append_drop, List.take_append_drop] at h
   rw [h]
 have hc1 : Tm.countL (ps.drop k ++ ps.take k) ≤ 150 := by
   have h1 := countL_app (ps.take k) (ps.drop k)
   rw [List.take_append_drop] at h1
   rw [countL_app]
   have := HCP.out.1
   omega
 have hc2 : Tm.countL (vs.drop k ++ vs.take k) ≤ 150 := by
   have h1 := countL_app (vs.take k) (vs.drop k)
   rw [List.take_append_drop] at h1
   rw [countL_app]
   have := HCP.out.2.1
   omega
 obtain ⟨r, hr⟩ : ∃ r, (if sp = sv then matchL ps vs b else none) = r := ⟨_, rfl⟩
 have HM1 := Hi (fun (W : World) (hW : Below W0.heap.size W0 W) => matchAtom_any sp sv ps vs b _ _ cp cv _ W (HBV.out W hW) (by rw [HLB.out]; have := HLN.out; omega) (fun x hx => by have := HCP.out.2.2.2 x hx; omega) HSB.out.2 (HPA.out W hW) (HVA.out W hW) (by have := HCP.out.1; omega) (by have := HCP.out.2.1; omega))
 have HM2 := Hi (fun (W : World) (hW0 : Below W0.heap.size W0 W) (hW : Below W8.heap.size W8 W) => matchAtom_any sp sv (ps.drop k ++ ps.take k) (vs.drop k ++ vs.take k) b raa rba rac rbc _ W (HBV.out W hW0) (by rw [HLB.out]; have := HLN.out; omega) (fun x hx => by have := HCP.out.2.2.2 x hx; omega) HSB.out.2 (HRA.out W hW) (HRB.out W hW) (by omega) (by omega))
 rw [hmt, hr, hln, hlm, hlk] at HM2
 rw [HLP.out, HLV.out, hr] at HM1
 have FQ1 := Hi (fun (W : World) (hW : Below W8.heap.size W8 W) => two (hW.block _ (gL HQ1nn.out.1)) HQ1nn.out.1)
 have FQ2 := Hi (fun (W : World) (hW : Below W8.heap.size W8 W) => two (hW.block _ (gL HQ2nn.out.1)) HQ2nn.out.1)
 rw [hln, hlk] at FQ1
 rw [hlm, hlk] at FQ2
 obtain ⟨OK, hOK⟩ : ∃ o, r.isSome = o := ⟨_, rfl⟩
 have HOK := Hi hOK
 clear hxs hys hln hlm hlk hga hha hmt hc1 hc2 hr hOK
 obtain ⟨x0, x1⟩ := FP.out _ HB8.out
 obtain ⟨y0, y1⟩ := FV.out _ HB8.out
 cases OK
 all_goals
   go_wp2_with (first
     | (go_at_call 17; have hgd := HB10.out; clear hgd; have hm := sameBinds_any (r.getD []) (r.getD []) _ _ V10 HC10.out HD10.out; rw [(sameBd_iff _ _).2 rfl] at hm; refine hm.mono ?_; clear hm; rintro e V11 ⟨rfl, hb⟩
        have HB11 := Hi (HB10.out.trans (hb.mono HB10.out.size))
        clear hb)
     | (go_at_call 18; have hgd := HB9.out; clear hgd; refine (HM2.out V9 HB9.out HE9.out).mono ?_; intro e V10 hm; obtain ⟨v10, rfl, hb, hd⟩ := match_post hm; clear hm; rw [HOK.out]
        obtain ⟨d1, d2, rfl⟩ : ∃ a k, v10 = .slice a (r.getD []).length k := by obtain ⟨a, k, e, _⟩ := hd; exact ⟨a, k, e⟩
        have HB10 := Hi (HB9.out.trans (hb.mono HB9.out.size))
        have HC10 := Hi (HC9.out.grow hb)
        have HD10 := Hi hd
        clear hb hd)
     | (go_at_call 18; refine (HM1.out W8 HB8.out).mono ?_; intro e V9 hm; obtain ⟨v9, rfl, hb, hd⟩ := match_post hm; clear hm; rw [HOK.out]
        obtain ⟨c1, c2, rfl⟩ : ∃ a k, v9 = .slice a (r.getD []).length k := by obtain ⟨a, k, e, _⟩ := hd; exact ⟨a, k, e⟩
        have HB9 := Hi (HB8.out.trans (hb.mono HB8.out.size))
        have HE9 := Hi hb
        have HC9 := Hi hd
        clear x0 x1 y0 y1
        obtain ⟨x0, x1⟩ := FQ1.out _ hb
        obtain ⟨y0, y1⟩ := FQ2.out _ hb
        clear hb hd))
   go_ret
   exact ⟨rfl, HB0.out.trans (HB11.out.mono HB0.out.size)⟩
end Go.Proofs.YtlmdhlckgbgfhaaGreatDoor
