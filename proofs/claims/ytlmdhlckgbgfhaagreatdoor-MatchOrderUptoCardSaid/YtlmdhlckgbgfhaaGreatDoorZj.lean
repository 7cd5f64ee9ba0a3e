/- Texts that belong together: Package match: fit: a variable is bound, an open part put off, and else the arguments fit. A region that draws its order, some of whose edges bind in no drawn order (they may lead forward). Package match: a binary search in sorted terms. Package arith: Expand. Package arith: Expand. The statements' helpers: how many subterms a term has, counted up to a bound. -/
import Derived.Test.YtlmdhlckgbgfhaaGreatDoorZi
import Derived.Test.YtlmdhlckgbgfhaaGreatDoorZd
import Derived.Test.YtlmdhlckgbgfhaaGreatDoorZc
import Derived.Test.YtlmdhlckgbgfhaaGreatDoorZh
import Derived.Test.YtlmdhlckgbgfhaaGreatDoorZg
import Derived.Test.YtlmdhlckgbgfhaaGreatDoorProg
import Derived.Test.YtlmdhlckgbgfhaaGreatDoorZa
import Derived.Defers
import Derived.Recover
import Derived.WalkKit
import Derived.WalkSpells
import Derived.WalkLawsBesides
import Derived.IntWalk
set_option maxRecDepth 100000
set_option maxHeartbeats 400000000
namespace Go.Proofs.YtlmdhlckgbgfhaaGreatDoor
open Go.RowKit Go.Shelf
attribute [local go_sem] Oper.semAt_some

theorem info_open : (Tryz.prog.info? 97).map (fun i => (i.zero, i.size, i.bytes)) = some (some (.agg #[.int .u8 0, .int .i64 0, .string ⟨#[]⟩, .slice none 0 0, .int .u8 0, .int .i64 0, .string ⟨#[]⟩, .slice none 0 0]), 8, 112) := by kernel_rfl
theorem wp_append {o : Oper} {a : Act} {w w' : World} {v' sv xv : Value} {R : Act → World → Prop} {Q : Exit → Act → World → Prop} (s x : Operand) (t : TypeId) (ho : o.op = .call { callee := .builtin .append, args := #[s, x], argTypes := #[t, t] })
   (hs : a.eval s = sv) (hx : a.eval x = xv) (hr : (Builtin.append_ #[t, t] o.type #[sv, xv]).run Tryz.prog w = .ok v' w') (h : R (a.put o.dst v') w') : o.wp Tryz.prog a w R Q := by
 unfold Oper.wp execOp
 simp only [ho, resolve, invoke, builtin, Sem.run_bind, Sem.run_pure, Result.andThen_ok, List.map_toArray, List.map_cons, List.map_nil, hs, hx, hr]
 exact h
theorem PS.keep {w0 w w' : World} {base : Nat} {V : Value} {b : Bd} (h : PS w0 base w V b) (hk : ∀ q cs, q < w.heap.size → w.heap[q]? = some (.cells cs 40 (0, 0)) → w'.heap[q]? = w.heap[q]?) : PS w0 base w' V b := by
 obtain ⟨hl, xs, hx, h | ho⟩ := h
 · exact ⟨hl, xs, hx, Or.inl h⟩
 · refine ⟨hl, xs, hx, Or.inr ⟨ho.1, ho.2.imp id ?_⟩⟩
   rintro ⟨g, cap, cur, rfl, q1, q2, q3⟩
   exact ⟨g, cap, cur, rfl, q1, (hk g _ (gL q2) q2).trans q2, q3⟩
def FK (w0 : World) (base P : Nat) (V O : Value) (b : Bd) (op' : Ops) (PA VA : Value) (CS : Array Value) : Facts := fun i v w => match i with
 | 0 => v = .pointer (some ⟨P, 0, none⟩)
 | 1 => v = .pointer (some ⟨P, 0, none⟩)
 | 2 => v = .pointer (some ⟨P, 0, none⟩)
 | 3 => v = .pointer (some ⟨P, 1, none⟩)
 | 4 => v = O
 | 5 => v = PA
 | 6 => v = VA
 | 7 => v = .agg CS
 | 8 => ∃ g, v = .slice (some ⟨g, 0, none⟩) 1 1 ∧ w.heap[g]? = some (.cells CS 97 (0, 0))
 | 9 => OS w0 base w v op' ∧ PS w0 base w V b ∧ w.heap[P]? = some (.cells #[V, O] 94 (0, 0))
 | _ => True
theorem FK_grow {w0 : World} {base P : Nat} {V O : Value} {b : Bd} {op' : Ops} {PA VA : Value} {CS : Array Value} (i : Nat) (v : Value) (w w' : World) (h : FK w0 base P V O b op' PA VA CS i v w) (hb : Below w.heap.size w w') : FK w0 base P V O b op' PA VA CS i v w' := by
 have blk : ∀ {g : Nat} {o : Obj}, w.heap[g]? = some o → w'.heap[g]? = some o := fun {g o} hg => (hb.block g (gL hg)).trans hg
 match i, h with
 | 0, h => exact h
 | 1, h => exact h
 | 2, h => exact h
 | 3, h => exact h
 | 4, h => exact h
 | 5, h => exact h
 | 6, h => exact h
 | 7, h => exact h
 | 8, ⟨g, h1, h2⟩ => exact ⟨g, h1, blk h2⟩
 | 9, ⟨h1, h2, h3⟩ => exact ⟨h1.grow hb, h2.grow hb, blk h3⟩
 | _ + 10, _ => trivial
def klO (j k : Nat) : Bool := k == 9 && j == 8
theorem HoldO.one {w0 : World} {c0 c1 c2 c3 e0 e1 e2 e3 : Value} {p v : Tm} (h1 : IsTm w0.heap.size w0 c0 c1 c2 c3 p) (h2 : IsTm w0.heap.size w0 e0 e1 e2 e3 v) : HoldO w0 [c0, c1, c2, c3, e0, e1, e2, e3] [(p, v)] := ⟨c0, c1, c2, c3, e0, e1, e2, e3, [], rfl, h1, h2, rfl⟩
theorem fit_any {w0 : World} {base P : Nat} (h00 : w0.heap.size ≤ base) (hbP : base ≤ P) : ∀ p, FitAt w0 base P p := Tm.ind fun k n s us IH => by
 intro v b op c0 c1 c2 c3 d0 d1 d2 d3 w hB hbw hp hv hs hSI hcb hco
 have HTP := Hi hp
 have HTV := Hi hv
 obtain ⟨k3, n3, s3, us3⟩ := v
 simp only [IsTm] at hp hv
 simp only [Tm.count] at hcb hco
 obtain ⟨rfl, hk8, rfl, _, rfl, hsm, a2, c2, rfl, hl2m, hr2⟩ := hp
 obtain ⟨rfl, hk9, rfl, _, rfl, _, a3, c3, rfl, hl3m, hr3⟩ := hv
 have HFL := Hi (fun (W : World) (hW : Below w.heap.size w W) => fitAll_of h00 hbP us IH us3 b op a2 a3 c2 c3 W (hB.trans (hW.mono hB.size)) (Nat.le_trans hbw hW.size) hr2 hr3 hl2m hl3m hs (hSI.grow hW) (by omega) (by omega))
 obtain ⟨V, O, hP, hPS, hOS⟩ := hSI
 obtain ⟨l2, hl2⟩ : ∃ l2, us.length = l2 := ⟨_, rfl⟩
 obtain ⟨l3, hl3⟩ : ∃ l3, us3.length = l3 := ⟨_, rfl⟩
 rw [hl2] at HFL HTP ⊢
 rw [hl3] at HFL HTV ⊢
 obtain ⟨W0, hW0⟩ : ∃ W0, w.alloc (.cells #[.int .u8 k, .int .i64 n, .string s, .slice a2 l2 c2] 24) = W0 := ⟨_, rfl⟩
 obtain ⟨W1, hW1⟩ : ∃ W1, W0.alloc (.cells #[.int .u8 k3, .int .i64 n3, .string s3, .slice a3 l3 c3] 24) = W1 := ⟨_, rfl⟩
 have hb0 : Below w.heap.size w W0 := by rw [← hW0]; exact (Below.refl _ w).alloc (Nat.le_refl _) _
 have hb1 : Below w.heap.size w W1 := by rw [← hW1]; exact hb0.alloc hb0.size _
 have hb01 : Below W0.heap.size W0 W1 := by rw [← hW1]; exact (Below.refl _ W0).alloc (Nat.le_refl _) _
 have hq0 : W0.heap[w.heap.size]? = some (.cells #[.int .u8 k, .int .i64 n, .string s, .slice a2 l2 c2] 24 (0, 0)) := by rw [← hW0]; exact World.alloc_heap_new _ _
 have hq1 : W1.heap[W0.heap.size]? = some (.cells #[.int .u8 k3, .int .i64 n3, .string s3, .slice a3 l3 c3] 24 (0, 0)) := by rw [← hW1]; exact World.alloc_heap_new _ _
 have hq0' := (hb01.block _ (gL hq0)).trans hq0
 obtain ⟨n0, hn0⟩ : ∃ n0, w.heap.size = n0 := ⟨_, rfl⟩
 obtain ⟨n1, hn1⟩ : ∃ n1, W0.heap.size = n1 := ⟨_, rfl⟩
 have HQ0 := Hi (show W1.heap[n0]? = some (.cells #[.int .u8 k, .int .i64 n, .string s, .slice a2 l2 c2] 24 (0, 0)) from hn0 ▸ hq0')
 have HQ1 := Hi (show W1.heap[n1]? = some (.cells #[.int .u8 k3, .int .i64 n3, .string s3, .slice a3 l3 c3] 24 (0, 0)) from hn1 ▸ hq1)
 have HP1 := Hi ((hb1.block P (gL hP)).trans hP)
 have HPW := Hi (gL HP1.out)
 have HPS := Hi (hPS.grow hb1)
 have HOS := Hi (hOS.grow hb1)
 have HB1 := Hi (hB.trans (hb1.mono hB.size))
 have HBW := Hi (Nat.le_trans hbw hb1.size)
 have HFL1 := Hi (HFL.out W1 hb1)
 have hBw : Below base w W1 := hb1.mono hbw
 clear hq0 hq0' hq1 hb01 hb0 hP hPS hOS hr2 hr3 HFL IH
 go_enter Tryz.func96, Tryz.ntmps96
 have y0 := cells_at HQ0.out 0 _ rfl
 by_cases hk3 : k = 3
 · subst hk3
   go_wp2_with fail
   clear hW0 hn0 hW1 hn1 y0
   cases hbd : bindB b s (.mk k3 n3 s3 us3) with
   | none =>
     have HBD := Hi hbd
     clear hbd
     refine wp_region_grow_tail (by kernel_rfl) 6 (FQ [.val (.pointer (some ⟨P, 0, none⟩)), .val (.pointer (some ⟨P, 0, none⟩)), .val (.pointer (some ⟨P, 0, none⟩)), .val (.pointer (some ⟨n0, 2, none⟩)), .val (.string s), .val (.agg #[.int .u8 k3, .int .i64 n3, .string s3, .slice a3 l3 c3])]) (FQ_grow _) (by kernel_rfl) (by kernel_rfl) (steps_to ?_) ?_
     · simp only [List.take_succ_cons, List.take_zero]
       refine ⟨?_, ?_, ?_, ?_, ?_, ?_, trivial⟩
       · intro a wx hb hd hs ho hp
         refine ⟨rfl, ?_⟩
         have h0 : a.tmps.getD 0 undef = .pointer (some ⟨P, 0, none⟩) := (ho 0 (by kernel_rfl)).trans rfl
         unfold Oper.wp
         go_simp
         refine Stepped.at (v := .pointer (some ⟨P, 0, none⟩)) ?_ ?_ bR ?_
         · first | rfl | simp
         · first | exact hd | rfl
         · exact FQ_mk (.val (.pointer (some ⟨P, 0, none⟩))) rfl rfl
       · intro a wx hb hd hs ho hp
         refine ⟨rfl, ?_⟩
         have h11 : a.tmps.getD 11 undef = .pointer (some ⟨P, 0, none⟩) := qval_at hp 0 11 (by kernel_rfl) rfl
         unfold Oper.wp
         go_simp
         refine Stepped.at (v := .pointer (some ⟨P, 0, none⟩)) ?_ ?_ bR ?_
         · first | rfl | simp
         · first | exact hd | rfl
         · exact FQ_mk (.val (.pointer (some ⟨P, 0, none⟩))) rfl rfl
       · intro a wx hb hd hs ho hp
         refine ⟨rfl, ?_⟩
         have h12 : a.tmps.getD 12 undef = .pointer (some ⟨P, 0, none⟩) := qval_at hp 1 12 (by kernel_rfl) rfl
         unfold Oper.wp
         go_simp
         refine Stepped.at (v := .pointer (some ⟨P, 0, none⟩)) ?_ ?_ bR ?_
         · first | rfl | simp
         · first | exact hd | rfl
         · exact FQ_mk (.val (.pointer (some ⟨P, 0, none⟩))) rfl rfl
       · intro a wx hb hd hs ho hp
         refine ⟨rfl, ?_⟩
         have h4 : a.tmps.getD 4 undef = .pointer (some ⟨n0, 0, none⟩) := (ho 4 (by kernel_rfl)).trans rfl
         unfold Oper.wp
         go_simp
         refine Stepped.at (v := .pointer (some ⟨n0, 2, none⟩)) ?_ ?_ bR ?_
         · first | rfl | simp
         · first | exact hd | rfl
         · exact FQ_mk (.val (.pointer (some ⟨n0, 2, none⟩))) rfl rfl
       · intro a wx hb hd hs ho hp
         refine ⟨rfl, ?_⟩
         have h14 : a.tmps.getD 14 undef = .pointer (some ⟨n0, 2, none⟩) := qval_at hp 3 14 (by kernel_rfl) rfl
         have hx := (hb.block n0 (gL HQ0.out)).trans HQ0.out
         have x2 := cells_at hx 2 _ rfl
         unfold Oper.wp
         go_simp
         refine Stepped.at (v := .string s) ?_ ?_ bR ?_
         · first | rfl | simp
         · first | exact hd | rfl
         · exact FQ_mk (.val (.string s)) rfl rfl
       · intro a wx hb hd hs ho hp
         refine ⟨rfl, ?_⟩
         have h5 : a.tmps.getD 5 undef = .pointer (some ⟨n1, 0, none⟩) := (ho 5 (by kernel_rfl)).trans rfl
         have hx := (hb.block n1 (gL HQ1.out)).trans HQ1.out
         have x0 := cells_at hx 0 _ rfl
         have x1 := cells_at hx 1 _ rfl
         have x2 := cells_at hx 2 _ rfl
         have x3 := cells_at hx 3 _ rfl
         unfold Oper.wp
         go_simp
         refine Stepped.at (v := .agg #[.int .u8 k3, .int .i64 n3, .string s3, .slice a3 l3 c3]) ?_ ?_ bR ?_
         · first | rfl | simp
         · first | exact hd | rfl
         · exact FQ_mk (.val (.agg #[.int .u8 k3, .int .i64 n3, .string s3, .slice a3 l3 c3])) rfl rfl
     · intro a wz hbz hd hs2 ho2 hf
       have k13 : a.tmps.getD 13 undef = .pointer (some ⟨P, 0, none⟩) := FQ_at (.val (.pointer (some ⟨P, 0, none⟩))) rfl (facts_to hf 2 13 (by decide) (by kernel_rfl))
       have k15 : a.tmps.getD 15 undef = .string s := FQ_at (.val (.string s)) rfl (facts_to hf 4 15 (by decide) (by kernel_rfl))
       have k16 : a.tmps.getD 16 undef = .agg #[.int .u8 k3, .int .i64 n3, .string s3, .slice a3 l3 c3] := FQ_at (.val (.agg #[.int .u8 k3, .int .i64 n3, .string s3, .slice a3 l3 c3])) rfl (facts_to hf 5 16 (by decide) (by kernel_rfl))
       obtain ⟨u11, f11⟩ := exV (a.tmps.getD 11 undef)
       obtain ⟨u12, f12⟩ := exV (a.tmps.getD 12 undef)
       obtain ⟨u14, f14⟩ := exV (a.tmps.getD 14 undef)
       have hE := slots_mergeP [false, false, false, false, false, false, false, false, false, false, false, true, true, true, true, true, true, false, false, false, false, false, false, false, false, false, false, false, false, false, false, false, false, false, false, false, false, false, false, false, false, false, false, false, false, false, false, false, false, false, false, false, false, false, false, false, false, false, false, false] 60 hs2 rfl (by kernel_rfl) ho2
       simp only [mergeFrom, Nat.zero_add, Nat.reduceAdd, k13, k15, k16, f11, f12, f14] at hE
       obtain ⟨TT, DD⟩ := a
       simp only at hE hd
       subst hd hE
       clear k13 k15 k16 f11 f12 f14 hf hs2 ho2
       simp only [List.drop_succ_cons, List.drop_zero]
       have HBZ := Hi hbz
       clear hbz
       go_wp2_with (go_at_call 140; refine (bind_any h00 (HB1.out.trans (HBZ.out.mono HB1.out.size)) (Nat.le_trans HBW.out HBZ.out.size) b hs V (HPS.out.grow HBZ.out) (by omega) P 0 #[V, O] 94 ((HBZ.out.block P HPW.out).trans HP1.out) rfl hbP (by decide) s hsm (.mk k3 n3 s3 us3) _ _ _ _ HTV.out).mono ?_; intro e w5 hpost; unfold BindPost at hpost; rw [HBD.out] at hpost; obtain ⟨rfl, hfr⟩ := hpost)
       go_ret
       refine ⟨hBw.trans ((HBZ.out.mono HBW.out).trans (hfr.below hbP (Nat.le_refl _) (Nat.le_trans HBW.out HBZ.out.size))), ?_⟩
       rw [show fitT (.mk 3 n s us) (.mk k3 n3 s3 us3) (b, op) = none by simp [fitT, HBD.out]]
       rfl
   | some b' =>
     have HBD := Hi hbd
     clear hbd
     refine wp_region_grow_tail (by kernel_rfl) 6 (FQ [.val (.pointer (some ⟨P, 0, none⟩)), .val (.pointer (some ⟨P, 0, none⟩)), .val (.pointer (some ⟨P, 0, none⟩)), .val (.pointer (some ⟨n0, 2, none⟩)), .val (.string s), .val (.agg #[.int .u8 k3, .int .i64 n3, .string s3, .slice a3 l3 c3])]) (FQ_grow _) (by kernel_rfl) (by kernel_rfl) (steps_to ?_) ?_
     · simp only [List.take_succ_cons, List.take_zero]
       refine ⟨?_, ?_, ?_, ?_, ?_, ?_, trivial⟩
       · intro a wx hb hd hs ho hp
         refine ⟨rfl, ?_⟩
         have h0 : a.tmps.getD 0 undef = .pointer (some ⟨P, 0, none⟩) := (ho 0 (by kernel_rfl)).trans rfl
         unfold Oper.wp
         go_simp
         refine Stepped.at (v := .pointer (some ⟨P, 0, none⟩)) ?_ ?_ bR ?_
         · first | rfl | simp
         · first | exact hd | rfl
         · exact FQ_mk (.val (.pointer (some ⟨P, 0, none⟩))) rfl rfl
       · intro a wx hb hd hs ho hp
         refine ⟨rfl, ?_⟩
         have h11 : a.tmps.getD 11 undef = .pointer (some ⟨P, 0, none⟩) := qval_at hp 0 11 (by kernel_rfl) rfl
         unfold Oper.wp
         go_simp
         refine Stepped.at (v := .pointer (some ⟨P, 0, none⟩)) ?_ ?_ bR ?_
         · first | rfl | simp
         · first | exact hd | rfl
         · exact FQ_mk (.val (.pointer (some ⟨P, 0, none⟩))) rfl rfl
       · intro a wx hb hd hs ho hp
         refine ⟨rfl, ?_⟩
         have h12 : a.tmps.getD 12 undef = .pointer (some ⟨P, 0, none⟩) := qval_at hp 1 12 (by kernel_rfl) rfl
         unfold Oper.wp
         go_simp
         refine Stepped.at (v := .pointer (some ⟨P, 0, none⟩)) ?_ ?_ bR ?_
         · first | rfl | simp
         · first | exact hd | rfl
         · exact FQ_mk (.val (.pointer (some ⟨P, 0, none⟩))) rfl rfl
       · intro a wx hb hd hs ho hp
         refine ⟨rfl, ?_⟩
         have h4 : a.tmps.getD 4 undef = .pointer (some ⟨n0, 0, none⟩) := (ho 4 (by kernel_rfl)).trans rfl
         unfold Oper.wp
         go_simp
         refine Stepped.at (v := .pointer (some ⟨n0, 2, none⟩)) ?_ ?_ bR ?_
         · first | rfl | simp
         · first | exact hd | rfl
         · exact FQ_mk (.val (.pointer (some ⟨n0, 2, none⟩))) rfl rfl
       · intro a wx hb hd hs ho hp
         refine ⟨rfl, ?_⟩
         have h14 : a.tmps.getD 14 undef = .pointer (some ⟨n0, 2, none⟩) := qval_at hp 3 14 (by kernel_rfl) rfl
         have hx := (hb.block n0 (gL HQ0.out)).trans HQ0.out
         have x2 := cells_at hx 2 _ rfl
         unfold Oper.wp
         go_simp
         refine Stepped.at (v := .string s) ?_ ?_ bR ?_
         · first | rfl | simp
         · first | exact hd | rfl
         · exact FQ_mk (.val (.string s)) rfl rfl
       · intro a wx hb hd hs ho hp
         refine ⟨rfl, ?_⟩
         have h5 : a.tmps.getD 5 undef = .pointer (some ⟨n1, 0, none⟩) := (ho 5 (by kernel_rfl)).trans rfl
         have hx := (hb.block n1 (gL HQ1.out)).trans HQ1.out
         have x0 := cells_at hx 0 _ rfl
         have x1 := cells_at hx 1 _ rfl
         have x2 := cells_at hx 2 _ rfl
         have x3 := cells_at hx 3 _ rfl
         unfold Oper.wp
         go_simp
         refine Stepped.at (v := .agg #[.int .u8 k3, .int .i64 n3, .string s3, .slice a3 l3 c3]) ?_ ?_ bR ?_
         · first | rfl | simp
         · first | exact hd | rfl
         · exact FQ_mk (.val (.agg #[.int .u8 k3, .int .i64 n3, .string s3, .slice a3 l3 c3])) rfl rfl
     · intro a wz hbz hd hs2 ho2 hf
       have k13 : a.tmps.getD 13 undef = .pointer (some ⟨P, 0, none⟩) := FQ_at (.val (.pointer (some ⟨P, 0, none⟩))) rfl (facts_to hf 2 13 (by decide) (by kernel_rfl))
       have k15 : a.tmps.getD 15 undef = .string s := FQ_at (.val (.string s)) rfl (facts_to hf 4 15 (by decide) (by kernel_rfl))
       have k16 : a.tmps.getD 16 undef = .agg #[.int .u8 k3, .int .i64 n3, .string s3, .slice a3 l3 c3] := FQ_at (.val (.agg #[.int .u8 k3, .int .i64 n3, .string s3, .slice a3 l3 c3])) rfl (facts_to hf 5 16 (by decide) (by kernel_rfl))
       obtain ⟨u11, f11⟩ := exV (a.tmps.getD 11 undef)
       obtain ⟨u12, f12⟩ := exV (a.tmps.getD 12 undef)
       obtain ⟨u14, f14⟩ := exV (a.tmps.getD 14 undef)
       have hE := slots_mergeP [false, false, false, false, false, false, false, false, false, false, false, true, true, true, true, true, true, false, false, false, false, false, false, false, false, false, false, false, false, false, false, false, false, false, false, false, false, false, false, false, false, false, false, false, false, false, false, false, false, false, false, false, false, false, false, false, false, false, false, false] 60 hs2 rfl (by kernel_rfl) ho2
       simp only [mergeFrom, Nat.zero_add, Nat.reduceAdd, k13, k15, k16, f11, f12, f14] at hE
       obtain ⟨TT, DD⟩ := a
       simp only at hE hd
       subst hd hE
       clear k13 k15 k16 f11 f12 f14 hf hs2 ho2
       simp only [List.drop_succ_cons, List.drop_zero]
       have HBZ := Hi hbz
       clear hbz
       go_wp2_with (go_at_call 140; refine (bind_any h00 (HB1.out.trans (HBZ.out.mono HB1.out.size)) (Nat.le_trans HBW.out HBZ.out.size) b hs V (HPS.out.grow HBZ.out) (by omega) P 0 #[V, O] 94 ((HBZ.out.block P HPW.out).trans HP1.out) rfl hbP (by decide) s hsm (.mk k3 n3 s3 us3) _ _ _ _ HTV.out).mono ?_; intro e w5 hpost; unfold BindPost at hpost; rw [HBD.out] at hpost; obtain ⟨rfl, V', hp5, hps5, hfr, _⟩ := hpost; have HP5 := Hi (And.intro hp5 (And.intro hps5 hfr)); clear hp5 hps5 hfr)
       go_ret
       obtain ⟨hp5, hps5, hfr⟩ := HP5.out
       refine ⟨hBw.trans ((HBZ.out.mono HBW.out).trans (hfr.below hbP (Nat.le_refl _) (Nat.le_trans HBW.out HBZ.out.size))), ?_⟩
       rw [show fitT (.mk 3 n s us) (.mk k3 n3 s3 us3) (b, op) = some (b', op) by simp [fitT, HBD.out]]
       refine ⟨rfl, V', O, hp5, hps5, (HOS.out.grow HBZ.out).keep hfr fun q hq e => ?_⟩
       subst e
       obtain ⟨ys, _, ho⟩ := HOS.out
       exact own_not ho HP1.out (by decide) hq
 · by_cases hk5 : k = 5
   · subst hk5
     go_wp2_with fail
     clear hW0 hn0 hW1 hn1 y0
     refine wp_region_kill_tail (by kernel_rfl) 10 9 base HBW.out (by decide) klO (FK w0 base P V O b (op ++ [(.mk 5 n s us, .mk k3 n3 s3 us3)]) (.agg #[.int .u8 5, .int .i64 n, .string s, .slice a2 l2 c2]) (.agg #[.int .u8 k3, .int .i64 n3, .string s3, .slice a3 l3 c3]) #[.int .u8 5, .int .i64 n, .string s, .slice a2 l2 c2, .int .u8 k3, .int .i64 n3, .string s3, .slice a3 l3 c3]) (by kernel_rfl) (by kernel_rfl) (by kernel_rfl) (steps_toK ?_) ?_ (fun i k hk => by unfold klO; rw [show (k == 9) = false by simpa using (by omega : k ≠ 9)]; rfl)
     · simp only [List.take_succ_cons, List.take_zero]
       refine ⟨?_, ?_, ?_, ?_, ?_, ?_, ?_, ?_, ?_, ?_, trivial⟩
       · intro a wx hb he hd hs ho hp
         refine ⟨rfl, ?_⟩
         have h0 : a.tmps.getD 0 undef = .pointer (some ⟨P, 0, none⟩) := (ho 0 (by kernel_rfl)).trans rfl
         unfold Oper.wp
         go_simp
         exact SteppedK.at (v := .pointer (some ⟨P, 0, none⟩)) (by first | rfl | simp) hd (show (0 : Nat) ≠ 9 by decide) hb.size bR rfl FK_grow
       · intro a wx hb he hd hs ho hp
         refine ⟨rfl, ?_⟩
         have h0 : a.tmps.getD 0 undef = .pointer (some ⟨P, 0, none⟩) := (ho 0 (by kernel_rfl)).trans rfl
         unfold Oper.wp
         go_simp
         exact SteppedK.at (v := .pointer (some ⟨P, 0, none⟩)) (by first | rfl | simp) hd (show (1 : Nat) ≠ 9 by decide) hb.size bR rfl FK_grow
       · intro a wx hb he hd hs ho hp
         refine ⟨rfl, ?_⟩
         have h22 : a.tmps.getD 22 undef = .pointer (some ⟨P, 0, none⟩) := facts_at hp 1 22 (by kernel_rfl)
         unfold Oper.wp
         go_simp
         exact SteppedK.at (v := .pointer (some ⟨P, 0, none⟩)) (by first | rfl | simp) hd (show (2 : Nat) ≠ 9 by decide) hb.size bR rfl FK_grow
       · intro a wx hb he hd hs ho hp
         refine ⟨rfl, ?_⟩
         have h23 : a.tmps.getD 23 undef = .pointer (some ⟨P, 0, none⟩) := facts_at hp 2 23 (by kernel_rfl)
         unfold Oper.wp
         go_simp
         exact SteppedK.at (v := .pointer (some ⟨P, 1, none⟩)) (by first | rfl | simp) hd (show (3 : Nat) ≠ 9 by decide) hb.size bR rfl FK_grow
       · intro a wx hb he hd hs ho hp
         refine ⟨rfl, ?_⟩
         have h24 : a.tmps.getD 24 undef = .pointer (some ⟨P, 1, none⟩) := facts_at hp 3 24 (by kernel_rfl)
         have hbe := he (Or.inr (by kernel_rfl))
         have hx := (hbe.block P HPW.out).trans HP1.out
         have x1 := cells_at hx 1 _ rfl
         unfold Oper.wp
         go_simp
         exact SteppedK.at (v := O) (by first | rfl | simp) hd (show (4 : Nat) ≠ 9 by decide) hb.size bR rfl FK_grow
       · intro a wx hb he hd hs ho hp
         refine ⟨rfl, ?_⟩
         have h4 : a.tmps.getD 4 undef = .pointer (some ⟨n0, 0, none⟩) := (ho 4 (by kernel_rfl)).trans rfl
         have hbe := he (Or.inr (by kernel_rfl))
         have hx := (hbe.block n0 (gL HQ0.out)).trans HQ0.out
         have x0 := cells_at hx 0 _ rfl
         have x1 := cells_at hx 1 _ rfl
         have x2 := cells_at hx 2 _ rfl
         have x3 := cells_at hx 3 _ rfl
         unfold Oper.wp
         go_simp
         exact SteppedK.at (v := .agg #[.int .u8 5, .int .i64 n, .string s, .slice a2 l2 c2]) (by first | rfl | simp) hd (show (5 : Nat) ≠ 9 by decide) hb.size bR rfl FK_grow
       · intro a wx hb he hd hs ho hp
         refine ⟨rfl, ?_⟩
         have h5 : a.tmps.getD 5 undef = .pointer (some ⟨n1, 0, none⟩) := (ho 5 (by kernel_rfl)).trans rfl
         have hbe := he (Or.inr (by kernel_rfl))
         have hx := (hbe.block n1 (gL HQ1.out)).trans HQ1.out
         have x0 := cells_at hx 0 _ rfl
         have x1 := cells_at hx 1 _ rfl
         have x2 := cells_at hx 2 _ rfl
         have x3 := cells_at hx 3 _ rfl
         unfold Oper.wp
         go_simp
         exact SteppedK.at (v := .agg #[.int .u8 k3, .int .i64 n3, .string s3, .slice a3 l3 c3]) (by first | rfl | simp) hd (show (6 : Nat) ≠ 9 by decide) hb.size bR rfl FK_grow
       · intro a wx hb he hd hs ho hp
         refine ⟨rfl, ?_⟩
         have h26 : a.tmps.getD 26 undef = .agg #[.int .u8 5, .int .i64 n, .string s, .slice a2 l2 c2] := facts_at hp 5 26 (by kernel_rfl)
         have h27 : a.tmps.getD 27 undef = .agg #[.int .u8 k3, .int .i64 n3, .string s3, .slice a3 l3 c3] := facts_at hp 6 27 (by kernel_rfl)
         have s26 := qslot_of (hs.trans (show _ = 60 from rfl)) (by decide) h26
         have s27 := qslot_of (hs.trans (show _ = 60 from rfl)) (by decide) h27
         unfold Oper.wp
         go_simp
         exact SteppedK.at (v := .agg #[.int .u8 5, .int .i64 n, .string s, .slice a2 l2 c2, .int .u8 k3, .int .i64 n3, .string s3, .slice a3 l3 c3]) (by first | rfl | simp) hd (show (7 : Nat) ≠ 9 by decide) hb.size bR rfl FK_grow
       · intro a wx hb he hd hs ho hp
         refine ⟨rfl, ?_⟩
         have h28 : a.tmps.getD 28 undef = .agg #[.int .u8 5, .int .i64 n, .string s, .slice a2 l2 c2, .int .u8 k3, .int .i64 n3, .string s3, .slice a3 l3 c3] := facts_at hp 7 28 (by kernel_rfl)
         have s28 := qslot_of (hs.trans (show _ = 60 from rfl)) (by decide) h28
         unfold Oper.wp
         go_simp
         exact SteppedK.at rfl hd (by decide) hb.size (bR.alloc (Nat.le_refl _) _) ⟨_, rfl, World.alloc_heap_new _ _⟩ FK_grow
       · intro a wx hb he hd hs ho hp
         refine ⟨rfl, ?_⟩
         have h25 : a.tmps.getD 25 undef = O := facts_at hp 4 25 (by kernel_rfl)
         obtain ⟨g29, h29, hg29⟩ : FK w0 base P V O b (op ++ [(.mk 5 n s us, .mk k3 n3 s3 us3)]) (.agg #[.int .u8 5, .int .i64 n, .string s, .slice a2 l2 c2]) (.agg #[.int .u8 k3, .int .i64 n3, .string s3, .slice a3 l3 c3]) #[.int .u8 5, .int .i64 n, .string s, .slice a2 l2 c2, .int .u8 k3, .int .i64 n3, .string s3, .slice a3 l3 c3] 8 (a.tmps.getD 29 undef) wx := facts_at hp 8 29 (by kernel_rfl)
         obtain ⟨i0, hi, hz0, hz1, hz2⟩ := info_parts info_open
         have hbe := he (Or.inl rfl)
         obtain ⟨ys, hy, hown0⟩ := HOS.out.grow hbe
         have hPx := (hbe.block P HPW.out).trans HP1.out
         obtain ⟨v', w', hrun, hown, hgr, _, hat⟩ := run_append_own_at (P := Tryz.prog) wx base 92 _ 97 i0 _ 8 112 Tryz.underlying92 hi hz0 hz1 hz2 rfl (by decide) _ op.length ys hown0 ⟨g29, 0, none⟩ 1 1 ((#[.int .u8 5, .int .i64 n, .string s, .slice a2 l2 c2, .int .u8 k3, .int .i64 n3, .string s3, .slice a3 l3 c3] : Array Value)).toList rfl (fun j u hj => by
           rw [Addr.add_lit, Nat.zero_add]
           exact cells_at hg29 j _ (by simpa using hj)) (by simp [Value.oneCell']) (by unfold maxLen; omega) (by omega) (Nat.le_trans HBW.out hb.size)
         refine wp_append (.tmp 25) (.tmp 29) _ rfl ((Act.eval_tmp _ _).trans h25) ((Act.eval_tmp _ _).trans h29) hrun ?_
         have hPk : w'.heap[P]? = wx.heap[P]? := hgr.block P (gL hPx) (own_not hown0 hPx (by decide)).symm
         refine ⟨v', rfl, (Below.refl _ wx |>.mono (Nat.le_trans HBW.out hb.size)).grown hgr (Nat.le_trans HBW.out hb.size) (fun k e => (hown0.lt k e).1), fun _ _ => ⟨⟨_, hy.append (HoldO.one HTP.out HTV.out), by rw [List.length_append]; exact hown⟩, (HPS.out.grow hbe).keep (fun q cs hq hc => hgr.block q hq (own_not hown0 hc (by decide)).symm), hPk.trans hPx⟩, fun j u hne hk hw h => ?_⟩
         match j, h with
         | 0, h => exact h
         | 1, h => exact h
         | 2, h => exact h
         | 3, h => exact h
         | 4, h => exact h
         | 5, h => exact h
         | 6, h => exact h
         | 7, h => exact h
         | 8, _ => exact absurd hk (by decide)
         | 9, _ => exact absurd rfl hne
         | _ + 10, _ => trivial
     · intro a wz hbz hd hs2 ho2 hf
       have k21 : a.tmps.getD 21 undef = .pointer (some ⟨P, 0, none⟩) := facts_toK hf 0 21 (by decide) (fun k _ => by unfold klO; simp) (by kernel_rfl)
       obtain ⟨hos, hps, hpz⟩ : FK w0 base P V O b (op ++ [(.mk 5 n s us, .mk k3 n3 s3 us3)]) (.agg #[.int .u8 5, .int .i64 n, .string s, .slice a2 l2 c2]) (.agg #[.int .u8 k3, .int .i64 n3, .string s3, .slice a3 l3 c3]) #[.int .u8 5, .int .i64 n, .string s, .slice a2 l2 c2, .int .u8 k3, .int .i64 n3, .string s3, .slice a3 l3 c3] 9 (a.tmps.getD 30 undef) wz := facts_toK hf 9 30 (by decide) (fun k _ => by unfold klO; simp) (by kernel_rfl)
       obtain ⟨u22, f22⟩ := exV (a.tmps.getD 22 undef)
       obtain ⟨u23, f23⟩ := exV (a.tmps.getD 23 undef)
       obtain ⟨u24, f24⟩ := exV (a.tmps.getD 24 undef)
       obtain ⟨u25, f25⟩ := exV (a.tmps.getD 25 undef)
       obtain ⟨u26, f26⟩ := exV (a.tmps.getD 26 undef)
       obtain ⟨u27, f27⟩ := exV (a.tmps.getD 27 undef)
       obtain ⟨u28, f28⟩ := exV (a.tmps.getD 28 undef)
       obtain ⟨u29, f29⟩ := exV (a.tmps.getD 29 undef)
       obtain ⟨ys2, hy2, hown2⟩ := hos
       obtain ⟨sa, sn, sc, k30⟩ := own_slice hown2
       rw [k30] at hown2
       have hE := slots_mergeP [false, false, false, false, false, false, false, false, false, false, false, false, false, false, false, false, false, false, false, false, false, true, true, true, true, true, true, true, true, true, true, false, false, false, false, false, false, false, false, false, false, false, false, false, false, false, false, false, false, false, false, false, false, false, false, false, false, false, false, false] 60 hs2 rfl (by kernel_rfl) ho2
       simp only [mergeFrom, Nat.zero_add, Nat.reduceAdd, k21, k30, f22, f23, f24, f25, f26, f27, f28, f29] at hE
       obtain ⟨TT, DD⟩ := a
       simp only at hE hd
       subst hd hE
       clear k21 k30 f22 f23 f24 f25 f26 f27 f28 f29 hf hs2 ho2
       simp only [List.drop_succ_cons, List.drop_zero]
       have p1 := cells_at hpz 1 _ rfl
       have p2 := frozen_of_row wz P 1 _ _ hpz
       have HZ := Hi (And.intro hpz (And.intro hown2 (And.intro hps (And.intro hy2 hbz))))
       clear hpz hown2 hps hy2 hbz
       go_wp2
       go_ret
       obtain ⟨hpz, hown2, hps, hy2, hbz⟩ := HZ.out
       have hse := setCell_eq_setRow wz P 1 #[V, O] 94 (0, 0) (.slice sa sn sc) hpz
       have hkp : ∀ q, q ≠ P → (wz.setCell ⟨P, 1, none⟩ (.slice sa sn sc)).heap[q]? = wz.heap[q]? := fun q hq => Below.heap_setCell _ _ _ q (by simpa using hq)
       refine ⟨hBw.trans (hbz.trans ((Below.refl base wz).setCell (p := ⟨P, 1, none⟩) (show base ≤ P from hbP) _)), ?_⟩
       rw [show fitT (.mk 5 n s us) (.mk k3 n3 s3 us3) (b, op) = some (b, op ++ [(.mk 5 n s us, .mk k3 n3 s3 us3)]) by simp [fitT]]
       refine ⟨rfl, V, .slice sa sn sc, ?_, hps.keep (fun q cs hq hc => hkp q (fun e => by subst e; rw [hpz] at hc; simp at hc)), ⟨_, hy2, hown2.1, hown2.2.imp id ?_⟩⟩
       · rw [hse]; exact setRow_heap wz P #[V, O] _ _ _ hpz
       · rintro ⟨g, cap, cur, e, q1, q2, q3⟩
         exact ⟨g, cap, cur, e, q1, (hkp g (fun e => by subst e; rw [hpz] at q2; simp at q2)).trans q2, q3⟩
   · by_cases hk6 : k = 6
     · subst hk6
       go_wp2_with fail
       clear hW0 hn0 hW1 hn1 y0
       refine wp_region_kill_tail (by kernel_rfl) 10 9 base HBW.out (by decide) klO (FK w0 base P V O b (op ++ [(.mk 6 n s us, .mk k3 n3 s3 us3)]) (.agg #[.int .u8 6, .int .i64 n, .string s, .slice a2 l2 c2]) (.agg #[.int .u8 k3, .int .i64 n3, .string s3, .slice a3 l3 c3]) #[.int .u8 6, .int .i64 n, .string s, .slice a2 l2 c2, .int .u8 k3, .int .i64 n3, .string s3, .slice a3 l3 c3]) (by kernel_rfl) (by kernel_rfl) (by kernel_rfl) (steps_toK ?_) ?_ (fun i k hk => by unfold klO; rw [show (k == 9) = false by simpa using (by omega : k ≠ 9)]; rfl)
       · simp only [List.take_succ_cons, List.take_zero]
         refine ⟨?_, ?_, ?_, ?_, ?_, ?_, ?_, ?_, ?_, ?_, trivial⟩
         · intro a wx hb he hd hs ho hp
           refine ⟨rfl, ?_⟩
           have h0 : a.tmps.getD 0 undef = .pointer (some ⟨P, 0, none⟩) := (ho 0 (by kernel_rfl)).trans rfl
           unfold Oper.wp
           go_simp
           exact SteppedK.at (v := .pointer (some ⟨P, 0, none⟩)) (by first | rfl | simp) hd (show (0 : Nat) ≠ 9 by decide) hb.size bR rfl FK_grow
         · intro a wx hb he hd hs ho hp
           refine ⟨rfl, ?_⟩
           have h0 : a.tmps.getD 0 undef = .pointer (some ⟨P, 0, none⟩) := (ho 0 (by kernel_rfl)).trans rfl
           unfold Oper.wp
           go_simp
           exact SteppedK.at (v := .pointer (some ⟨P, 0, none⟩)) (by first | rfl | simp) hd (show (1 : Nat) ≠ 9 by decide) hb.size bR rfl FK_grow
         · intro a wx hb he hd hs ho hp
           refine ⟨rfl, ?_⟩
           have h22 : a.tmps.getD 22 undef = .pointer (some ⟨P, 0, none⟩) := facts_at hp 1 22 (by kernel_rfl)
           unfold Oper.wp
           go_simp
           exact SteppedK.at (v := .pointer (some ⟨P, 0, none⟩)) (by first | rfl | simp) hd (show (2 : Nat) ≠ 9 by decide) hb.size bR rfl FK_grow
         · intro a wx hb he hd hs ho hp
           refine ⟨rfl, ?_⟩
           have h23 : a.tmps.getD 23 undef = .pointer (some ⟨P, 0, none⟩) := facts_at hp 2 23 (by kernel_rfl)
           unfold Oper.wp
           go_simp
           exact SteppedK.at (v := .pointer (some ⟨P, 1, none⟩)) (by first | rfl | simp) hd (show (3 : Nat) ≠ 9 by decide) hb.size bR rfl FK_grow
         · intro a wx hb he hd hs ho hp
           refine ⟨rfl, ?_⟩
           have h24 : a.tmps.getD 24 undef = .pointer (some ⟨P, 1, none⟩) := facts_at hp 3 24 (by kernel_rfl)
           have hbe := he (Or.inr (by kernel_rfl))
           have hx := (hbe.block P HPW.out).trans HP1.out
           have x1 := cells_at hx 1 _ rfl
           unfold Oper.wp
           go_simp
           exact SteppedK.at (v := O) (by first | rfl | simp) hd (show (4 : Nat) ≠ 9 by decide) hb.size bR rfl FK_grow
         · intro a wx hb he hd hs ho hp
           refine ⟨rfl, ?_⟩
           have h4 : a.tmps.getD 4 undef = .pointer (some ⟨n0, 0, none⟩) := (ho 4 (by kernel_rfl)).trans rfl
           have hbe := he (Or.inr (by kernel_rfl))
           have hx := (hbe.block n0 (gL HQ0.out)).trans HQ0.out
           have x0 := cells_at hx 0 _ rfl
           have x1 := cells_at hx 1 _ rfl
           have x2 := cells_at hx 2 _ rfl
           have x3 := cells_at hx 3 _ rfl
           unfold Oper.wp
           go_simp
           exact SteppedK.at (v := .agg #[.int .u8 6, .int .i64 n, .string s, .slice a2 l2 c2]) (by first | rfl | simp) hd (show (5 : Nat) ≠ 9 by decide) hb.size bR rfl FK_grow
         · intro a wx hb he hd hs ho hp
           refine ⟨rfl, ?_⟩
           have h5 : a.tmps.getD 5 undef = .pointer (some ⟨n1, 0, none⟩) := (ho 5 (by kernel_rfl)).trans rfl
           have hbe := he (Or.inr (by kernel_rfl))
           have hx := (hbe.block n1 (gL HQ1.out)).trans HQ1.out
           have x0 := cells_at hx 0 _ rfl
           have x1 := cells_at hx 1 _ rfl
           have x2 := cells_at hx 2 _ rfl
           have x3 := cells_at hx 3 _ rfl
           unfold Oper.wp
           go_simp
           exact SteppedK.at (v := .agg #[.int .u8 k3, .int .i64 n3, .string s3, .slice a3 l3 c3]) (by first | rfl | simp) hd (show (6 : Nat) ≠ 9 by decide) hb.size bR rfl FK_grow
         · intro a wx hb he hd hs ho hp
           refine ⟨rfl, ?_⟩
           have h26 : a.tmps.getD 26 undef = .agg #[.int .u8 6, .int .i64 n, .string s, .slice a2 l2 c2] := facts_at hp 5 26 (by kernel_rfl)
           have h27 : a.tmps.getD 27 undef = .agg #[.int .u8 k3, .int .i64 n3, .string s3, .slice a3 l3 c3] := facts_at hp 6 27 (by kernel_rfl)
           have s26 := qslot_of (hs.trans (show _ = 60 from rfl)) (by decide) h26
           have s27 := qslot_of (hs.trans (show _ = 60 from rfl)) (by decide) h27
           unfold Oper.wp
           go_simp
           exact SteppedK.at (v := .agg #[.int .u8 6, .int .i64 n, .string s, .slice a2 l2 c2, .int .u8 k3, .int .i64 n3, .string s3, .slice a3 l3 c3]) (by first | rfl | simp) hd (show (7 : Nat) ≠ 9 by decide) hb.size bR rfl FK_grow
         · intro a wx hb he hd hs ho hp
           refine ⟨rfl, ?_⟩
           have h28 : a.tmps.getD 28 undef = .agg #[.int .u8 6, .int .i64 n, .string s, .slice a2 l2 c2, .int .u8 k3, .int .i64 n3, .string s3, .slice a3 l3 c3] := facts_at hp 7 28 (by kernel_rfl)
           have s28 := qslot_of (hs.trans (show _ = 60 from rfl)) (by decide) h28
           unfold Oper.wp
           go_simp
           exact SteppedK.at rfl hd (by decide) hb.size (bR.alloc (Nat.le_refl _) _) ⟨_, rfl, World.alloc_heap_new _ _⟩ FK_grow
         · intro a wx hb he hd hs ho hp
           refine ⟨rfl, ?_⟩
           have h25 : a.tmps.getD 25 undef = O := facts_at hp 4 25 (by kernel_rfl)
           obtain ⟨g29, h29, hg29⟩ : FK w0 base P V O b (op ++ [(.mk 6 n s us, .mk k3 n3 s3 us3)]) (.agg #[.int .u8 6, .int .i64 n, .string s, .slice a2 l2 c2]) (.agg #[.int .u8 k3, .int .i64 n3, .string s3, .slice a3 l3 c3]) #[.int .u8 6, .int .i64 n, .string s, .slice a2 l2 c2, .int .u8 k3, .int .i64 n3, .string s3, .slice a3 l3 c3] 8 (a.tmps.getD 29 undef) wx := facts_at hp 8 29 (by kernel_rfl)
           obtain ⟨i0, hi, hz0, hz1, hz2⟩ := info_parts info_open
           have hbe := he (Or.inl rfl)
           obtain ⟨ys, hy, hown0⟩ := HOS.out.grow hbe
           have hPx := (hbe.block P HPW.out).trans HP1.out
           obtain ⟨v', w', hrun, hown, hgr, _, hat⟩ := run_append_own_at (P := Tryz.prog) wx base 92 _ 97 i0 _ 8 112 Tryz.underlying92 hi hz0 hz1 hz2 rfl (by decide) _ op.length ys hown0 ⟨g29, 0, none⟩ 1 1 ((#[.int .u8 6, .int .i64 n, .string s, .slice a2 l2 c2, .int .u8 k3, .int .i64 n3, .string s3, .slice a3 l3 c3] : Array Value)).toList rfl (fun j u hj => by
             rw [Addr.add_lit, Nat.zero_add]
             exact cells_at hg29 j _ (by simpa using hj)) (by simp [Value.oneCell']) (by unfold maxLen; omega) (by omega) (Nat.le_trans HBW.out hb.size)
           refine wp_append (.tmp 25) (.tmp 29) _ rfl ((Act.eval_tmp _ _).trans h25) ((Act.eval_tmp _ _).trans h29) hrun ?_
           have hPk : w'.heap[P]? = wx.heap[P]? := hgr.block P (gL hPx) (own_not hown0 hPx (by decide)).symm
           refine ⟨v', rfl, (Below.refl _ wx |>.mono (Nat.le_trans HBW.out hb.size)).grown hgr (Nat.le_trans HBW.out hb.size) (fun k e => (hown0.lt k e).1), fun _ _ => ⟨⟨_, hy.append (HoldO.one HTP.out HTV.out), by rw [List.length_append]; exact hown⟩, (HPS.out.grow hbe).keep (fun q cs hq hc => hgr.block q hq (own_not hown0 hc (by decide)).symm), hPk.trans hPx⟩, fun j u hne hk hw h => ?_⟩
           match j, h with
           | 0, h => exact h
           | 1, h => exact h
           | 2, h => exact h
           | 3, h => exact h
           | 4, h => exact h
           | 5, h => exact h
           | 6, h => exact h
           | 7, h => exact h
           | 8, _ => exact absurd hk (by decide)
           | 9, _ => exact absurd rfl hne
           | _ + 10, _ => trivial
       · intro a wz hbz hd hs2 ho2 hf
         have k21 : a.tmps.getD 21 undef = .pointer (some ⟨P, 0, none⟩) := facts_toK hf 0 21 (by decide) (fun k _ => by unfold klO; simp) (by kernel_rfl)
         obtain ⟨hos, hps, hpz⟩ : FK w0 base P V O b (op ++ [(.mk 6 n s us, .mk k3 n3 s3 us3)]) (.agg #[.int .u8 6, .int .i64 n, .string s, .slice a2 l2 c2]) (.agg #[.int .u8 k3, .int .i64 n3, .string s3, .slice a3 l3 c3]) #[.int .u8 6, .int .i64 n, .string s, .slice a2 l2 c2, .int .u8 k3, .int .i64 n3, .string s3, .slice a3 l3 c3] 9 (a.tmps.getD 30 undef) wz := facts_toK hf 9 30 (by decide) (fun k _ => by unfold klO; simp) (by kernel_rfl)
         obtain ⟨u22, f22⟩ := exV (a.tmps.getD 22 undef)
         obtain ⟨u23, f23⟩ := exV (a.tmps.getD 23 undef)
         obtain ⟨u24, f24⟩ := exV (a.tmps.getD 24 undef)
         obtain ⟨u25, f25⟩ := exV (a.tmps.getD 25 undef)
         obtain ⟨u26, f26⟩ := exV (a.tmps.getD 26 undef)
         obtain ⟨u27, f27⟩ := exV (a.tmps.getD 27 undef)
         obtain ⟨u28, f28⟩ := exV (a.tmps.getD 28 undef)
         obtain ⟨u29, f29⟩ := exV (a.tmps.getD 29 undef)
         obtain ⟨ys2, hy2, hown2⟩ := hos
         obtain ⟨sa, sn, sc, k30⟩ := own_slice hown2
         rw [k30] at hown2
         have hE := slots_mergeP [false, false, false, false, false, false, false, false, false, false, false, false, false, false, false, false, false, false, false, false, false, true, true, true, true, true, true, true, true, true, true, false, false, false, false, false, false, false, false, false, false, false, false, false, false, false, false, false, false, false, false, false, false, false, false, false, false, false, false, false] 60 hs2 rfl (by kernel_rfl) ho2
         simp only [mergeFrom, Nat.zero_add, Nat.reduceAdd, k21, k30, f22, f23, f24, f25, f26, f27, f28, f29] at hE
         obtain ⟨TT, DD⟩ := a
         simp only at hE hd
         subst hd hE
         clear k21 k30 f22 f23 f24 f25 f26 f27 f28 f29 hf hs2 ho2
         simp only [List.drop_succ_cons, List.drop_zero]
         have p1 := cells_at hpz 1 _ rfl
         have p2 := frozen_of_row wz P 1 _ _ hpz
         have HZ := Hi (And.intro hpz (And.intro hown2 (And.intro hps (And.intro hy2 hbz))))
         clear hpz hown2 hps hy2 hbz
         go_wp2
         go_ret
         obtain ⟨hpz, hown2, hps, hy2, hbz⟩ := HZ.out
         have hse := setCell_eq_setRow wz P 1 #[V, O] 94 (0, 0) (.slice sa sn sc) hpz
         have hkp : ∀ q, q ≠ P → (wz.setCell ⟨P, 1, none⟩ (.slice sa sn sc)).heap[q]? = wz.heap[q]? := fun q hq => Below.heap_setCell _ _ _ q (by simpa using hq)
         refine ⟨hBw.trans (hbz.trans ((Below.refl base wz).setCell (p := ⟨P, 1, none⟩) (show base ≤ P from hbP) _)), ?_⟩
         rw [show fitT (.mk 6 n s us) (.mk k3 n3 s3 us3) (b, op) = some (b, op ++ [(.mk 6 n s us, .mk k3 n3 s3 us3)]) by simp [fitT]]
         refine ⟨rfl, V, .slice sa sn sc, ?_, hps.keep (fun q cs hq hc => hkp q (fun e => by subst e; rw [hpz] at hc; simp at hc)), ⟨_, hy2, hown2.1, hown2.2.imp id ?_⟩⟩
         · rw [hse]; exact setRow_heap wz P #[V, O] _ _ _ hpz
         · rintro ⟨g, cap, cur, e, q1, q2, q3⟩
           exact ⟨g, cap, cur, e, q1, (hkp g (fun e => by subst e; rw [hpz] at q2; simp at q2)).trans q2, q3⟩
     · have z0 := cells_at HQ0.out 0 _ rfl
       have z1 := cells_at HQ0.out 1 _ rfl
       have z2 := cells_at HQ0.out 2 _ rfl
       have z3 := cells_at HQ0.out 3 _ rfl
       have z4 := cells_at HQ1.out 0 _ rfl
       have z5 := cells_at HQ1.out 1 _ rfl
       have z6 := cells_at HQ1.out 2 _ rfl
       have z7 := cells_at HQ1.out 3 _ rfl
       have HBw := Hi hBw
       clear y0 hBw
       by_cases he : k = k3 ∧ n = n3 ∧ s = s3
       · have HF := Hi (show fitT (.mk k n s us) (.mk k3 n3 s3 us3) (b, op) = fitL us us3 (b, op) by simp only [fitT]; rw [if_neg hk3, if_neg (by simp [hk5, hk6])]; exact if_pos he)
         obtain ⟨rfl, rfl, rfl⟩ := he
         cases hfl : fitL us us3 (b, op) with
         | none =>
           rw [hfl] at HFL1 HF
           clear hfl
           go_wp2_with (go_at_call 65; refine HFL1.out.mono ?_; rintro e w5 ⟨hbb, rfl⟩)
           go_ret
           exact ⟨HBw.out.trans hbb, by rw [HF.out]; rfl⟩
         | some st =>
           obtain ⟨b2, o2⟩ := st
           rw [hfl] at HFL1 HF
           clear hfl
           go_wp2_with (go_at_call 65; refine HFL1.out.mono ?_; rintro e w5 ⟨hbb, rfl, hsi⟩; have HSI := Hi hsi; clear hsi)
           go_ret
           exact ⟨HBw.out.trans hbb, by rw [HF.out]; exact ⟨rfl, HSI.out⟩⟩
       · have HF := Hi (show fitT (.mk k n s us) (.mk k3 n3 s3 us3) (b, op) = none by simp only [fitT]; rw [if_neg hk3, if_neg (by simp [hk5, hk6])]; exact if_neg he)
         by_cases e1 : k = k3
         · by_cases e2 : n = n3
           · have e3 : ¬ s.toList = s3.toList := fun e => he ⟨e1, e2, str_inj.1 e⟩
             subst e1 e2
             clear he
             go_wp2
             go_ret
             exact ⟨HBw.out, by rw [HF.out]; rfl⟩
           · subst e1
             clear he
             go_wp2
             go_ret
             exact ⟨HBw.out, by rw [HF.out]; rfl⟩
         · clear he
           go_wp2
           go_ret
           exact ⟨HBw.out, by rw [HF.out]; rfl⟩
end Go.Proofs.YtlmdhlckgbgfhaaGreatDoor
namespace Go.Proofs.YtlmdhlckgbgfhaaGreatDoor
open Go.RowKit

def regionOkB (ops : Array Oper) (n : Nat) : Bool := (List.range ops.size).all fun i =>
 match ops[i]? with
 | some o => (o.after.all fun e => !(Region.binds .any e) || decide (e.on < i)) && (match o.dst with
   | some d => decide (d < n) && (List.range i).all fun j => ((ops[j]?).bind (·.dst)) != some d
   | none => true)
 | none => true

theorem regionOkB_spec {ops : Array Oper} {n : Nat} (h : regionOkB ops n = true) (i : Nat) (o : Oper) (ho : ops[i]? = some o) :
   (∀ e ∈ o.after, Region.binds .any e = true → e.on < i) ∧ ∀ d, o.dst = some d → d < n ∧ ∀ j oj, j < i → ops[j]? = some oj → oj.dst ≠ some d := by
 have hi : i < ops.size := (gL ho)
 have h1 := List.all_eq_true.1 h i (List.mem_range.2 hi)
 simp only [ho, Bool.and_eq_true, Array.all_eq_true_iff_forall_mem] at h1
 refine ⟨fun e he hb => by have := h1.1 e he; rw [hb] at this; simpa using this, fun d hd => ?_⟩
 have h2 := h1.2
 simp only [hd, Bool.and_eq_true, decide_eq_true_eq, List.all_eq_true, List.mem_range, bne_iff_ne, ne_eq] at h2
 refine ⟨h2.1, fun j oj hj hoj e => h2.2 j hj ?_⟩
 simp [hoj, e]

theorem wpAny_invB {P : Program} {ops : Array Oper} {Q : Exit → Act → World → Prop} {n : Nat} (hok : regionOkB ops n = true) (J : Array Bool → Act → World → Prop) (hsize : ∀ l a w, J l a w → l.size = ops.size)
   (step : ∀ l a w i o, J l a w → l.getD i true = false → ops[i]? = some o → (∀ e ∈ o.after, Region.binds .any e = true → l.getD e.on false = true) → wpOp P ops Q i (fun a' w' => J (l.setIfInBounds i true) a' w') a w)
   (fin : ∀ a w, J (Array.replicate ops.size true) a w → Q .normal a w) :
   ∀ (fuel : Nat) (listed : Array Bool) (a : Act) (w : World), J listed a w → ((List.range ops.size).filter fun i => !listed.getD i true).length ≤ fuel →
     wpAny P .any ops Q fuel listed a w := by
 have hend : ∀ (listed : Array Bool) (a : Act) (w : World), J listed a w → Region.ready .any ops listed = [] → Q .normal a w := by
   intro listed a w hJ hr
   have hall : ∀ i, i < ops.size → listed.getD i true = true := by
     intro i
     induction i using Nat.strongRecOn with
     | _ i ih =>
       intro hi
       by_cases hl : listed.getD i true = true
       · exact hl
       · exfalso
         have hmem : i ∈ Region.ready .any ops listed := by
           unfold Region.ready
           obtain ⟨o, ho⟩ : ∃ o, ops[i]? = some o := ⟨ops[i], Array.getElem?_eq_getElem hi⟩
           refine List.mem_filter.2 ⟨List.mem_range.2 hi, ?_⟩
           simp only [ho, Option.map_some, Option.getD_some, Bool.and_eq_true, Bool.not_eq_true', Array.all_eq_true_iff_forall_mem, Bool.or_eq_true]
           refine ⟨by simpa using hl, fun e he => ?_⟩
           cases hbe : Region.binds .any e with
           | false => exact Or.inl rfl
           | true =>
           refine Or.inr ?_
           have hlt := (regionOkB_spec hok i o ho).1 e he hbe
           have := ih e.on hlt (by omega)
           have hs : e.on < listed.size := by rw [hsize _ _ _ hJ]; omega
           simp only [Array.getD, hs, dif_pos] at this ⊢
           exact this
         rw [hr] at hmem
         cases hmem
   have heq : listed = Array.replicate ops.size true := by
     apply Array.ext
     · rw [hsize _ _ _ hJ, Array.size_replicate]
     · intro i h1 h2
       have := hall i (by rw [← hsize _ _ _ hJ]; exact h1)
       simp only [Array.getD, h1, dif_pos] at this
       simpa using this
   exact fin a w (heq ▸ hJ)
 intro fuel
 induction fuel with
 | zero =>
   intro listed a w hJ hf
   have hr : Region.ready .any ops listed = [] := by
     unfold Region.ready
     rw [List.filter_eq_nil_iff]
     intro i hi h
     have hnil := List.length_eq_zero_iff.1 (Nat.le_zero.1 hf)
     rw [List.filter_eq_nil_iff] at hnil
     simp only [Bool.and_eq_true] at h
     exact hnil i hi h.1
   exact ⟨hr, hend listed a w hJ hr⟩
 | succ fuel ih =>
   intro listed a w hJ hf
   refine ⟨hend listed a w hJ, fun i hi => ?_⟩
   unfold Region.ready at hi
   obtain ⟨hir, hib⟩ := List.mem_filter.1 hi
   have hi' : i < ops.size := List.mem_range.1 hir
   obtain ⟨o, ho⟩ : ∃ o, ops[i]? = some o := ⟨ops[i], Array.getElem?_eq_getElem hi'⟩
   simp only [ho, Option.map_some, Option.getD_some, Bool.and_eq_true, Bool.not_eq_true', Array.all_eq_true_iff_forall_mem, Bool.or_eq_true] at hib
   obtain ⟨hil, hie⟩ := hib
   refine wpOp_mono ?_ (step listed a w i o hJ hil ho (fun e he hb => (hie e he).resolve_left (by rw [hb]; decide)))
   intro a' w' hJ'
   have hls : i < listed.size := by rw [hsize _ _ _ hJ]; exact hi'
   refine ih _ _ _ hJ' ?_
   have hlt : ((List.range ops.size).filter fun j => !(listed.setIfInBounds i true).getD j true).length < ((List.range ops.size).filter fun j => !listed.getD j true).length := by
     have hsub : ((List.range ops.size).filter fun j => !(listed.setIfInBounds i true).getD j true) = ((List.range ops.size).filter fun j => !listed.getD j true).filter (fun j => j != i) := by
       rw [List.filter_filter]
       apply List.filter_congr
       intro j hj
       by_cases e : j = i
       · subst e; simp [Array.getD_eq_getD_getElem?, hls]
       · simp [Array.getD_eq_getD_getElem?, Array.getElem?_setIfInBounds_ne (fun h => e h.symm), e]
     rw [hsub]
     refine List.length_filter_lt_length_iff_exists.2 ⟨i, List.mem_filter.2 ⟨List.mem_range.2 hi', by simpa using hil⟩, by simp⟩
   omega

theorem RegInv.putB {ops : Array Oper} {Φ : Facts} {a0 : Act} {w0 : World} (hst : ∀ i v w w', Φ i v w → Below w.heap.size w w' → Φ i v w') (hok : regionOkB ops a0.tmps.size = true)
   {listed : Array Bool} {a : Act} {w : World} (hJ : RegInv ops Φ a0 w0 listed a w) {i : Nat} {o : Oper} (ho : ops[i]? = some o) {v : Value} {w' : World} (hb : Below w.heap.size w w') (hv : ∀ d, o.dst = some d → Φ i v w') :
   RegInv ops Φ a0 w0 (listed.setIfInBounds i true) (a.put o.dst v) w' := by
 refine ⟨by simp [hJ.size], hJ.below.trans (hb.mono hJ.below.size), ?_, ?_, ?_, ?_⟩
 · rw [← hJ.defers]; cases o.dst <;> rfl
 · rw [← hJ.tmps]; cases o.dst <;> simp [Act.put]
 · intro t ht
   rw [← hJ.outer t ht]
   cases hd : o.dst with
   | none => rfl
   | some d =>
     have hne : d ≠ t := fun e => noDst_spec ht i o ho (by rw [hd, e])
     simp [Act.put, Array.getD_eq_getD_getElem?, Array.getElem?_setIfInBounds_ne hne]
 · intro j oj d hoj hlj hd
   by_cases hji : j = i
   · subst hji
     obtain rfl : oj = o := by rw [ho] at hoj; exact (Option.some.inj hoj).symm
     have hdn := ((regionOkB_spec hok j oj ho).2 d hd).1
     rw [hd]
     have e : (a.put (some d) v).tmps.getD d undef = v := by
       have : d < a.tmps.size := by rw [hJ.tmps]; exact hdn
       simp [Act.put, Array.getD_eq_getD_getElem?, this]
     rw [e]
     exact hv d hd
   · have hlj' : listed.getD j false = true := by
       simpa [Array.getD_eq_getD_getElem?, Array.getElem?_setIfInBounds_ne (fun e => hji e.symm)] using hlj
     have hf0 := hst _ _ _ _ (hJ.facts j oj d hoj hlj' hd) hb
     cases hd' : o.dst with
     | none => exact hf0
     | some d' =>
       have hne : d' ≠ d := by
         intro e
         subst e
         rcases Nat.lt_or_gt_of_ne hji with h | h
         · exact ((regionOkB_spec hok i o ho).2 d' hd').2 j oj h hoj hd
         · exact ((regionOkB_spec hok j oj hoj).2 d' hd).2 i o h ho hd'
       simpa [Act.put, Array.getD_eq_getD_getElem?, Array.getElem?_setIfInBounds_ne hne] using hf0

theorem wp_region_grow_orB {P : Program} {ops : Array Oper} {Q : Exit → Act → World → Prop} {id : Nat} {a0 : Act} {w0 : World} (hm : P.follows .mixedOrders = true) (Φ : Facts) (hst : ∀ i v w w', Φ i v w → Below w.heap.size w w' → Φ i v w')
   (hok : regionOkB ops a0.tmps.size = true) (step : ∀ i o, ops[i]? = some o → StepOr P ops Q Φ a0 w0 i o)
   (fin : ∀ a w, RegInv ops Φ a0 w0 (Array.replicate ops.size true) a w → Q .normal a w) : (Code.region id ops true).wp P Q a0 w0 := by
 refine wp_region_any hm (wpAny_invB hok (RegInv ops Φ a0 w0) (fun _ _ _ h => h.size) ?_ fin ops.size _ a0 _ RegInv.start ?_)
 · intro l a w i o hJ hil ho hie
   rcases step i o ho a w hJ.below hJ.defers hJ.tmps hJ.outer (fun j oj d hwt hoj hd => by obtain ⟨e, he, hej, hb⟩ := waitsFor_spec hwt; exact hJ.facts j oj d hoj (hej ▸ hie e he hb) hd) with ⟨hw, hwp⟩ | ⟨hw, hv⟩
   · unfold wpOp
     simp only [ho, hw, if_true]
     refine Or.inl (Oper.wp_mono ?_ hwp)
     rintro a' w' ⟨v, rfl, hb, hv⟩
     exact hJ.putB hst hok ho hb hv
   · unfold wpOp
     simp only [ho, hw, Bool.false_eq_true, if_false]
     exact hJ.putB hst hok ho bR hv
 · exact Nat.le_trans (List.length_filter_le _ _) (by simp)

end Go.Proofs.YtlmdhlckgbgfhaaGreatDoor
namespace Go.Proofs.YtlmdhlckgbgfhaaGreatDoor
open Go.RowKit Go.Shelf
attribute [local go_sem] Oper.semAt_some

def idxT (L : List Tm) (v : Tm) : Nat := (L.takeWhile fun x => decide (Tm.cmp x v < 0)).length
def foundT (L : List Tm) (v : Tm) : Bool := L.any fun x => Tm.cmp x v == 0
theorem idxT_le (L : List Tm) (v : Tm) : idxT L v ≤ L.length := (List.takeWhile_sublist _).length_le
theorem lt_trans {x y v : Tm} (hx : x.Good) (hy : y.Good) (hv : v.Good) (h1 : Tm.cmp x y = -1) (h2 : Tm.cmp y v ≤ 0) : Tm.cmp x v < 0 := by
 have h := cmp_tri x y v hx hy hv (by omega) h2
 have h3 := h.2
 rw [h1] at h3
 have : ¬ Tm.cmp x v = 0 := fun e => by have := (h3.1 e).1; omega
 have := h.1
 omega
theorem idxT_spec : ∀ {L : List Tm} {v : Tm}, (L.Pairwise fun a b => Tm.cmp a b = -1) → (∀ x ∈ L, x.Good) → v.Good → ∀ h (hh : h < L.length), decide (Tm.cmp L[h] v < 0) = decide (h < idxT L v)
 | x :: r, v, hs, hg, hv, h, hh => by
   rw [List.pairwise_cons] at hs
   unfold idxT
   by_cases hx : Tm.cmp x v < 0
   · rw [List.takeWhile_cons_of_pos (by simpa using hx), List.length_cons]
     cases h with
     | zero => simpa using hx
     | succ h =>
       have := idxT_spec (L := r) (v := v) hs.2 (fun y hy => hg y (List.mem_cons_of_mem _ hy)) hv h (by simpa using hh)
       rw [List.getElem_cons_succ, this]
       unfold idxT
       simp
   · rw [List.takeWhile_cons_of_neg (by simpa using hx)]
     simp only [List.length_nil, Nat.not_lt_zero, decide_false]
     cases h with
     | zero => simpa using hx
     | succ h =>
       have hr : h < r.length := by simpa using hh
       rw [List.getElem_cons_succ]
       have hm := List.getElem_mem hr
       simp only [decide_eq_false_iff_not]
       intro e
       exact hx (lt_trans (hg x (by simp)) (hg _ (List.mem_cons_of_mem _ hm)) hv (hs.1 _ hm) (by omega))
theorem found_at {L : List Tm} {v : Tm} (hs : L.Pairwise fun a b => Tm.cmp a b = -1) (hg : ∀ x ∈ L, x.Good) (hv : v.Good) (h : idxT L v < L.length) : foundT L v = (Tm.cmp L[idxT L v] v == 0) := by
 have key : ∀ i (hi : i < L.length), Tm.cmp L[i] v = 0 → i = idxT L v := fun i hi e => by
   have h1 := idxT_spec hs hg hv i hi
   have h2 := idxT_spec hs hg hv _ h
   rw [e] at h1
   have h3 : ¬ i < idxT L v := by simpa using h1.symm
   by_cases h4 : idxT L v < i
   · have := lt_trans (hg _ (List.getElem_mem h)) (hg _ (List.getElem_mem hi)) hv (List.pairwise_iff_getElem.1 hs _ _ h hi h4) (by omega)
     rw [decide_eq_true this] at h2
     simp at h2
   · omega
 by_cases e : Tm.cmp L[idxT L v] v = 0
 · rw [e]
   exact List.any_eq_true.2 ⟨_, List.getElem_mem h, by rw [e]; rfl⟩
 · rw [show (Tm.cmp L[idxT L v] v == 0) = false by simpa using e]
   cases hq : foundT L v with
   | false => rfl
   | true =>
     obtain ⟨x, hx, hx2⟩ := List.any_eq_true.1 hq
     obtain ⟨i, hi, rfl⟩ := List.getElem_of_mem hx
     have he : Tm.cmp L[i] v = 0 := by simpa using hx2
     have := key i hi he
     subst this
     exact absurd he e
theorem found_end {L : List Tm} {v : Tm} (hs : L.Pairwise fun a b => Tm.cmp a b = -1) (hg : ∀ x ∈ L, x.Good) (hv : v.Good) (h : ¬ idxT L v < L.length) : foundT L v = false := by
 cases hq : foundT L v with
 | false => rfl
 | true =>
   obtain ⟨x, hx, hx2⟩ := List.any_eq_true.1 hq
   obtain ⟨i, hi, rfl⟩ := List.getElem_of_mem hx
   have he : Tm.cmp L[i] v = 0 := by simpa using hx2
   have h1 := idxT_spec hs hg hv i hi
   rw [he] at h1
   have : ¬ i < idxT L v := by simpa using h1.symm
   omega
theorem goodL_mem : ∀ {ts : List Tm}, Tm.GoodL ts → ∀ t ∈ ts, t.Good
 | a :: r, h, t, ht => by
   simp only [Tm.GoodL] at h
   rcases List.mem_cons.1 ht with rfl | ht
   · exact h.1
   · exact goodL_mem h.2 t ht
def ds103_5 (L : List Tm) (a : Option Addr) (g off cap _ xi : Nat) (k n k3 n3 : Int) (s s3 : ByteArray) (a2 a3 : Option Addr) (l2 c2 l3 c3 : Nat) (CV : Int) (B31 : Bool) : List Du := [.val (.func (.func 70) #[] #[]), .val (.slice a L.length cap), .val (.int .i64 (xi)), .val (.pointer (some ⟨g, off + xi * 4, none⟩)), .val (.agg #[.int .u8 k3, .int .i64 n3, .string s3, .slice a3 l3 c3]), .val (.agg #[.int .u8 k, .int .i64 n, .string s, .slice a2 l2 c2]), .val (.int .i64 (CV)), .val (.bool (B31))]
def ds103_8 (L : List Tm) (a : Option Addr) (g off cap _ xi : Nat) (k n k3 n3 : Int) (s s3 : ByteArray) (a2 a3 : Option Addr) (l2 c2 l3 c3 : Nat) (CV : Int) (B38 B47 : Bool) : List Du := [.val (.int .i64 (xi)), .val (.int .i64 (xi)), .val (.int .i64 (L.length)), .val (.bool (B38)), .val (.bool (B38)), .val (cond (gon (true) (B38) true) (.func (.func 70) #[] #[]) undef), .val (cond (gon (true) (B38) true) (.slice a L.length cap) undef), .val (cond (gon (true) (B38) true) (.int .i64 (xi)) undef), .val (cond (gon (true) (B38) true) (.pointer (some ⟨g, off + xi * 4, none⟩)) undef), .val (cond (gon (true) (B38) true) (.agg #[.int .u8 k3, .int .i64 n3, .string s3, .slice a3 l3 c3]) undef), .val (cond (gon (true) (B38) true) (.agg #[.int .u8 k, .int .i64 n, .string s, .slice a2 l2 c2]) undef), .val (cond (gon (true) (B38) true) (.int .i64 (CV)) undef), .val (cond (gon (true) (B38) true) (.bool (B47)) undef), .val (.bool ((B38 && B47))), .val (.int .i64 (xi)), .val (.bool ((B38 && B47)))]
theorem searchT_any (L : List Tm) (hs : L.Pairwise fun a b => Tm.cmp a b = -1) (a : Option Addr) (cap : Nat) (t : Tm) (d0 d1 d2 d3 : Value) (w : World) (hlen : L.length ≤ 1000000)
   (hr : L ≠ [] → ∃ g off, a = some ⟨g, off, none⟩ ∧ g < w.heap.size ∧ IsTms w.heap.size w g off L) (ht : IsTm w.heap.size w d0 d1 d2 d3 t) :
   Calls Tryz.prog 99 #[.slice a L.length cap, .agg #[d0, d1, d2, d3], .func (.func 70) #[] #[]] w fun e w' => e = .returned (.tuple #[.int .i64 (idxT L t), .bool (foundT L t)]) ∧ Below w.heap.size w w' := by
 have hgv := good_of ht
 have hgl : ∀ x ∈ L, x.Good := by
   by_cases hne : L = []
   · subst hne; intro x hx; cases hx
   · obtain ⟨g, off, _, _, hI⟩ := hr hne
     exact goodL_mem (goodL_of hI)
 have HSP := Hi (fun h hh => idxT_spec (v := t) hs hgl hgv h hh)
 have HFA := Hi (fun h => found_at (v := t) hs hgl hgv h)
 have HFE := Hi (fun h => found_end (v := t) hs hgl hgv h)
 have HTT := Hi ht
 have HR := Hi hr
 have hil := idxT_le L t
 obtain ⟨k, n, s, us⟩ := t
 simp only [IsTm] at ht
 obtain ⟨rfl, _, rfl, _, rfl, _, a2, c2, rfl, _, _⟩ := ht
 obtain ⟨l2, hl2⟩ : ∃ l2, us.length = l2 := ⟨_, rfl⟩
 rw [hl2] at HTT ⊢
 obtain ⟨W0, hW0⟩ : ∃ W0, w.alloc (.cells #[.int .u8 k, .int .i64 n, .string s, .slice a2 l2 c2] 24) = W0 := ⟨_, rfl⟩
 obtain ⟨n4, hn4⟩ : ∃ n4, w.heap.size = n4 := ⟨_, rfl⟩
 have HB0 := Hi (show Below w.heap.size w W0 by rw [← hW0]; exact (Below.refl _ w).alloc (Nat.le_refl _) _)
 have HQ0 := Hi (show W0.heap[n4]? = some (.cells #[.int .u8 k, .int .i64 n, .string s, .slice a2 l2 c2] 24 (0, 0)) by rw [← hW0, ← hn4]; exact World.alloc_heap_new _ _)
 clear hs hgl hgv hr hl2
 go_enter Tryz.func99, Tryz.ntmps99
 go_wp2_with fail
 have HN4 := Hi hn4
 clear hW0 hn4
 go_loopw [9, 10] (fun i j wr => ∃ x y : Nat, x ≤ idxT L (.mk k n s us) ∧ idxT L (.mk k n s us) ≤ y ∧ y ≤ L.length ∧ i = .int .i64 x ∧ j = .int .i64 y ∧ Below W0.heap.size W0 wr) (fun i j _ => (intOf j - intOf i).toNat)
 case atStart => exact ⟨0, L.length, Nat.zero_le _, hil, Nat.le_refl _, rfl, rfl, Below.refl _ _⟩
 case round =>
   obtain ⟨xi, y, hx, hy, hyl, rfl, rfl, hB⟩ := hrel
   have HB := Hi (HB0.out.trans (hB.mono HB0.out.size))
   have HBL := Hi hB
   have HQ := Hi ((hB.block n4 (gL HQ0.out)).trans HQ0.out)
   clear hB
   have HX0 := Hi (And.intro hx hy)
   clear hx hy
   by_cases hxy : xi < y
   · have i1 : (xi : Int) < (y : Int) := by omega
     have w1 : IntKind.i64.wrap ((xi : Int) + (y : Int)) = ((xi + y : Nat) : Int) := by rw [IntWalk.i64_in _ (by omega)]; omega
     obtain ⟨h, hh⟩ : ∃ h : Nat, ((xi : Int) + (y : Int)) / 2 = (h : Int) := ⟨(xi + y) / 2, by omega⟩
     have hxh : xi ≤ h := by omega
     have hhy : h < y := by omega
     have hlt : h < L.length := by omega
     have i2 : (0 : Int) ≤ (h : Int) := by omega
     have i3 : (h : Int) < (L.length : Int) := by omega
     obtain ⟨g, off, ha, hg, hI⟩ := HR.out (by intro e; rw [e] at hlt; simp at hlt)
     obtain ⟨e0, e1, e2, e3, y0, y1, y2, y3, hT⟩ := hI.at h hlt
     have hsp := HSP.out h hlt
     obtain ⟨tq, htq⟩ : ∃ tq, L[h] = tq := ⟨_, rfl⟩
     rw [htq] at hT hsp
     obtain ⟨k3, n3, s3, us3⟩ := tq
     have hT0 := hT
     simp only [IsTm] at hT
     obtain ⟨rfl, _, rfl, _, rfl, _, a3, c3, rfl, _, _⟩ := hT
     obtain ⟨l3, hl3⟩ : ∃ l3, us3.length = l3 := ⟨_, rfl⟩
     rw [hl3] at y3 hT0
     obtain ⟨CV, hCV⟩ : ∃ CV, Tm.cmp (.mk k3 n3 s3 us3) (.mk k n s us) = CV := ⟨_, rfl⟩
     have HCMP := Hi (fun (W : World) (hW : Below wr.heap.size wr W) => (show Calls Tryz.prog 70 #[.agg #[.int .u8 k3, .int .i64 n3, .string s3, .slice a3 l3 c3], .agg #[.int .u8 k, .int .i64 n, .string s, .slice a2 l2 c2]] W fun e w2 => e = .returned (.int .i64 CV) ∧ Below W.heap.size W w2 from hCV ▸ compare_any W.heap.size _ _ _ _ _ _ _ _ _ _ W ((hT0.below (HB.out.trans (hW.mono HB.out.size))).mono (Nat.le_trans HB.out.size hW.size)) ((HTT.out.below (HB.out.trans (hW.mono HB.out.size))).mono (Nat.le_trans HB.out.size hW.size)) (Nat.le_refl _)))
     have HX := Hi (And.intro (Nat.lt_of_lt_of_le hg HB.out.size) (And.intro ((HB.out.cell (p := ⟨g, off + h * 4, none⟩) hg).trans y0) (And.intro ((HB.out.cell (p := ⟨g, off + h * 4 + 1, none⟩) hg).trans y1) (And.intro ((HB.out.cell (p := ⟨g, off + h * 4 + 2, none⟩) hg).trans y2) ((HB.out.cell (p := ⟨g, off + h * 4 + 3, none⟩) hg).trans y3)))))
     rw [hCV] at hsp
     have HSPX := Hi hsp
     have HA := Hi ha
     clear hI y0 y1 y2 y3 hT0 htq hsp hCV ha hl3
     go_wp2_with fail
     obtain ⟨B31, hB31⟩ : ∃ x : Bool, (decide (((CV : Int)) < (0))) = x := ⟨_, rfl⟩
     have HB31 := Hi hB31
     refine wp_region_grow_or (by kernel_rfl) (FU (ds103_5 L a g off cap n4 h k n k3 n3 s s3 a2 a3 l2 c2 l3 c3 CV B31)) (FU_grow _) (by kernel_rfl) (steps_or ?_) ?_
     · refine ⟨?_, ?_, ?_, ?_, ?_, ?_, ?_, ?_, trivial⟩
       · intro ac wz hb hd hs ho hp
         refine Or.inl ⟨rfl, ?_⟩
         have h2 : ac.tmps.getD 2 undef = .func (.func 70) #[] #[] := (ho 2 (by kernel_rfl)).trans rfl
         unfold Oper.wp
         go_simp
         exact Stepped.at rfl hd bR (FU_mk _ rfl (by show (_ : Value) = _; first | rfl | (first | rfl | simp) | (simp [*])))
       · intro ac wz hb hd hs ho hp
         refine Or.inl ⟨rfl, ?_⟩
         have h0 : ac.tmps.getD 0 undef = .slice a L.length cap := (ho 0 (by kernel_rfl)).trans rfl
         unfold Oper.wp
         go_simp
         exact Stepped.at rfl hd bR (FU_mk _ rfl (by show (_ : Value) = _; first | rfl | (first | rfl | simp) | (simp [*])))
       · intro ac wz hb hd hs ho hp
         refine Or.inl ⟨rfl, ?_⟩
         have h11 : ac.tmps.getD 11 undef = .int .i64 (h) := (ho 11 (by kernel_rfl)).trans rfl
         unfold Oper.wp
         go_simp
         exact Stepped.at rfl hd bR (FU_mk _ rfl (by show (_ : Value) = _; first | rfl | (first | rfl | simp) | (simp [*])))
       · intro ac wz hb hd hs ho hp
         refine Or.inl ⟨rfl, ?_⟩
         have h25 := uval_at hp 1 25 (by kernel_rfl) rfl
         have h26 := uval_at hp 2 26 (by kernel_rfl) rfl
         rw [HA.out] at h25
         unfold Oper.wp
         go_simp
         exact Stepped.at rfl hd bR (FU_mk _ rfl (by show (_ : Value) = _; first | rfl | (first | rfl | simp) | (simp [*])))
       · intro ac wz hb hd hs ho hp
         refine Or.inl ⟨rfl, ?_⟩
         have h27 := uval_at hp 3 27 (by kernel_rfl) rfl
         have x0 := (hb.cell (p := ⟨g, off + h * 4, none⟩) HX.out.1).trans HX.out.2.1
         have x1 := (hb.cell (p := ⟨g, off + h * 4 + 1, none⟩) HX.out.1).trans HX.out.2.2.1
         have x2 := (hb.cell (p := ⟨g, off + h * 4 + 2, none⟩) HX.out.1).trans HX.out.2.2.2.1
         have x3 := (hb.cell (p := ⟨g, off + h * 4 + 3, none⟩) HX.out.1).trans HX.out.2.2.2.2
         unfold Oper.wp
         go_simp
         exact Stepped.at rfl hd bR (FU_mk _ rfl (by show (_ : Value) = _; first | rfl | (first | rfl | simp) | (simp [*])))
       · intro ac wz hb hd hs ho hp
         refine Or.inl ⟨rfl, ?_⟩
         have h4 : ac.tmps.getD 4 undef = .pointer (some ⟨n4, 0, none⟩) := (ho 4 (by kernel_rfl)).trans rfl
         have hx := (hb.block n4 (gL HQ.out)).trans HQ.out
         have x0 := cells_at hx 0 _ rfl
         have x1 := cells_at hx 1 _ rfl
         have x2 := cells_at hx 2 _ rfl
         have x3 := cells_at hx 3 _ rfl
         unfold Oper.wp
         go_simp
         exact Stepped.at rfl hd bR (FU_mk _ rfl (by show (_ : Value) = _; first | rfl | (first | rfl | simp) | (simp [*])))
       · intro ac wz hb hd hs ho hp
         refine Or.inl ⟨rfl, ?_⟩
         have h24 := uval_at hp 0 24 (by kernel_rfl) rfl
         have h28 := uval_at hp 4 28 (by kernel_rfl) rfl
         have h29 := uval_at hp 5 29 (by kernel_rfl) rfl
         unfold Oper.wp
         go_simp
         refine (HCMP.out _ hb).mono ?_
         rintro e2 w2 ⟨rfl, hb2⟩
         exact Stepped.at rfl hd (hb2) (FU_mk _ rfl (by show (_ : Value) = _; first | rfl | simp))
       · intro ac wz hb hd hs ho hp
         refine Or.inl ⟨rfl, ?_⟩
         have h30 := uval_at hp 6 30 (by kernel_rfl) rfl
         unfold Oper.wp
         go_simp
         exact Stepped.at rfl hd bR (FU_mk _ rfl (by show (_ : Value) = _; first | rfl | (rw [← hB31]; first | rfl | simp) | (simp [*])))
     intro ac W2 hJ
     have f31 : ac.tmps.getD 31 undef = .bool (B31) := FU_at (.val (.bool (B31))) rfl (hJ.at_end 7 31 (by kernel_rfl))
     obtain ⟨u24, f24⟩ := exV (ac.tmps.getD 24 undef)
     obtain ⟨u25, f25⟩ := exV (ac.tmps.getD 25 undef)
     obtain ⟨u26, f26⟩ := exV (ac.tmps.getD 26 undef)
     obtain ⟨u27, f27⟩ := exV (ac.tmps.getD 27 undef)
     obtain ⟨u28, f28⟩ := exV (ac.tmps.getD 28 undef)
     obtain ⟨u29, f29⟩ := exV (ac.tmps.getD 29 undef)
     obtain ⟨u30, f30⟩ := exV (ac.tmps.getD 30 undef)
     have bw := hJ.below
     obtain ⟨TT, DD⟩ := ac
     obtain rfl : DD = [] := hJ.defers
     have hE := slots_merge [false, false, false, false, false, false, false, false, false, false, false, false, false, false, false, false, false, false, false, false, false, false, false, false, true, true, true, true, true, true, true, true, false, false, false, false, false, false, false, false, false, false, false, false, false, false, false, false, false] 49 hJ.tmps rfl (by kernel_rfl) hJ.outer
     simp only [mergeFrom, Nat.zero_add, Nat.reduceAdd, f24, f25, f26, f27, f28, f29, f30, f31] at hE
     clear hJ f24 f25 f26 f27 f28 f29 f30 f31 hB31
     subst hE
     have HB2 := Hi (HBL.out.trans (bw.mono HBL.out.size))
     clear bw
     by_cases hlo : CV < 0
     · have HN := Hi (show h + 1 ≤ idxT L (.mk k n s us) by have h1 := HSPX.out; rw [decide_eq_true hlo] at h1; have := of_decide_eq_true h1.symm; omega)
       have i4 : IntKind.i64.wrap ((h : Int) + 1) = ((h + 1 : Nat) : Int) := by rw [IntWalk.i64_in _ (by omega)]; omega
       obtain rfl : B31 = true := by rw [← HB31.out]; exact decide_eq_true hlo
       go_wp2
       go_roundw
       case rel => exact ⟨h + 1, y, HN.out, HX0.out.2, hyl, by first | rfl | go_num, rfl, HB2.out⟩
       case measure => simp [intOf]; omega
     · have HN := Hi (show idxT L (.mk k n s us) ≤ h by have h1 := HSPX.out; rw [decide_eq_false hlo] at h1; have := of_decide_eq_false h1.symm; omega)
       obtain rfl : B31 = false := by rw [← HB31.out]; exact decide_eq_false hlo
       go_wp2
       go_roundw
       case rel => exact ⟨xi, h, HX0.out.1, HN.out, by omega, rfl, rfl, HB2.out⟩
       case measure => simp [intOf]; omega
   · have i1 : ¬ (xi : Int) < (y : Int) := by omega
     have hxe : xi = idxT L (.mk k n s us) := by have := HX0.out; omega
     have hall : ∃ g off k3 n3 s3 a3 l3 c3 CV, foundT L (.mk k n s us) = (decide ((xi : Int) < (L.length : Int)) && ((CV : Int) == (0 : Int))) ∧ (xi < L.length → a = some ⟨g, off, none⟩ ∧ g < wr.heap.size ∧ wr.cell? ⟨g, off + xi * 4, none⟩ = some (.int .u8 k3) ∧ wr.cell? ⟨g, off + xi * 4 + 1, none⟩ = some (.int .i64 n3) ∧ wr.cell? ⟨g, off + xi * 4 + 2, none⟩ = some (.string s3) ∧ wr.cell? ⟨g, off + xi * 4 + 3, none⟩ = some (.slice a3 l3 c3)) ∧
         (xi < L.length → ∀ W, Below wr.heap.size wr W → Calls Tryz.prog 70 #[.agg #[.int .u8 k3, .int .i64 n3, .string s3, .slice a3 l3 c3], .agg #[.int .u8 k, .int .i64 n, .string s, .slice a2 l2 c2]] W fun e w2 => e = .returned (.int .i64 CV) ∧ Below W.heap.size W w2) := by
       by_cases hlt : xi < L.length
       · obtain ⟨g, off, ha, hg, hI⟩ := HR.out (by intro e; rw [e] at hlt; simp at hlt)
         obtain ⟨e0, e1, e2, e3, y0, y1, y2, y3, hT⟩ := hI.at xi hlt
         have hfo := HFA.out (hxe ▸ hlt)
         have hxq : L[idxT L (.mk k n s us)]'(hxe ▸ hlt) = L[xi] := by simp only [← hxe]
         rw [hxq] at hfo
         obtain ⟨tq, htq⟩ : ∃ tq, L[xi] = tq := ⟨_, rfl⟩
         rw [htq] at hT hfo
         obtain ⟨k3, n3, s3, us3⟩ := tq
         have hT0 := hT
         simp only [IsTm] at hT
         obtain ⟨rfl, _, rfl, _, rfl, _, a3, c3, rfl, _, _⟩ := hT
         refine ⟨g, off, k3, n3, s3, a3, us3.length, c3, Tm.cmp (.mk k3 n3 s3 us3) (.mk k n s us), ?_, fun _ => ⟨ha, Nat.lt_of_lt_of_le hg HB.out.size, (HB.out.cell (p := ⟨g, off + xi * 4, none⟩) hg).trans y0, (HB.out.cell (p := ⟨g, off + xi * 4 + 1, none⟩) hg).trans y1, (HB.out.cell (p := ⟨g, off + xi * 4 + 2, none⟩) hg).trans y2, (HB.out.cell (p := ⟨g, off + xi * 4 + 3, none⟩) hg).trans y3⟩, fun _ W hW => ?_⟩
         · rw [hfo, decide_eq_true (by omega : (xi : Int) < (L.length : Int)), Bool.true_and]
         · exact compare_any W.heap.size _ _ _ _ _ _ _ _ _ _ W ((hT0.below (HB.out.trans (hW.mono HB.out.size))).mono (Nat.le_trans HB.out.size hW.size)) ((HTT.out.below (HB.out.trans (hW.mono HB.out.size))).mono (Nat.le_trans HB.out.size hW.size)) (Nat.le_refl _)
       · refine ⟨0, 0, 0, 0, ⟨#[]⟩, none, 0, 0, 0, ?_, fun h => absurd h hlt, fun h => absurd h hlt⟩
         rw [HFE.out (hxe ▸ hlt), decide_eq_false (by omega : ¬ (xi : Int) < (L.length : Int)), Bool.false_and]
     obtain ⟨g, off, k3, n3, s3, a3, l3, c3, CV, hst, hx, hcmp⟩ := hall
     have HSTh := Hi hst
     have HX := Hi hx
     have HCMP := Hi hcmp
     have HXE := Hi hxe
     clear hst hx hcmp hxe
     go_wp2_with fail
     obtain ⟨B38, hB38⟩ : ∃ x : Bool, (decide (((xi : Int)) < (L.length))) = x := ⟨_, rfl⟩
     obtain ⟨B47, hB47⟩ : ∃ x : Bool, (((CV : Int)) == (0)) = x := ⟨_, rfl⟩
     have HST0 := HSTh.out
     rw [show decide ((xi : Int) < (L.length : Int)) = B38 from hB38, show ((CV : Int) == (0 : Int)) = B47 from hB47] at HST0
     have HST := Hi HST0
     clear HST0
     refine wp_region_grow_orB (by kernel_rfl) (FU (ds103_8 L a g off cap n4 xi k n k3 n3 s s3 a2 a3 l2 c2 l3 c3 CV B38 B47)) (FU_grow _) (by kernel_rfl) (steps_or ?_) ?_
     · refine ⟨?_, ?_, ?_, ?_, ?_, ?_, ?_, ?_, ?_, ?_, ?_, ?_, ?_, ?_, ?_, ?_, trivial⟩
       · intro ac wz hb hd hs ho hp
         refine Or.inl ⟨rfl, ?_⟩
         have h9 : ac.tmps.getD 9 undef = .int .i64 (xi) := (ho 9 (by kernel_rfl)).trans rfl
         unfold Oper.wp
         go_simp
         exact Stepped.at rfl hd bR (FU_mk _ rfl (by show (_ : Value) = _; first | rfl | (first | rfl | simp) | (simp [*])))
       · intro ac wz hb hd hs ho hp
         refine Or.inl ⟨rfl, ?_⟩
         have h9 : ac.tmps.getD 9 undef = .int .i64 (xi) := (ho 9 (by kernel_rfl)).trans rfl
         unfold Oper.wp
         go_simp
         exact Stepped.at rfl hd bR (FU_mk _ rfl (by show (_ : Value) = _; first | rfl | (first | rfl | simp) | (simp [*])))
       · intro ac wz hb hd hs ho hp
         refine Or.inl ⟨rfl, ?_⟩
         have h8 : ac.tmps.getD 8 undef = .int .i64 (L.length) := (ho 8 (by kernel_rfl)).trans rfl
         unfold Oper.wp
         go_simp
         exact Stepped.at rfl hd bR (FU_mk _ rfl (by show (_ : Value) = _; first | rfl | (first | rfl | simp) | (simp [*])))
       · intro ac wz hb hd hs ho hp
         refine Or.inl ⟨rfl, ?_⟩
         have h36 := uval_at hp 1 36 (by kernel_rfl) rfl
         have h37 := uval_at hp 2 37 (by kernel_rfl) rfl
         unfold Oper.wp
         go_simp
         exact Stepped.at rfl hd bR (FU_mk _ rfl (by show (_ : Value) = _; first | rfl | (rw [← hB38]; first | rfl | simp) | (simp [*])))
       · intro ac wz hb hd hs ho hp
         refine Or.inl ⟨rfl, ?_⟩
         have h38 := uval_at hp 3 38 (by kernel_rfl) rfl
         unfold Oper.wp
         go_simp
         exact Stepped.at rfl hd bR (FU_mk _ rfl (by show (_ : Value) = _; first | rfl | (first | rfl | simp) | (simp [*])))
       · intro ac wz hb hd hs ho hp
         refine gon_or1 (k := 4) (d := 39) rfl (by kernel_rfl) (uval_at hp 4 39 (by kernel_rfl) rfl) (fun hc d hd => FU_mk _ rfl (by rw [hc]; rfl)) fun hc => ?_
         have HC := Hi hc
         clear hc
         have h2 : ac.tmps.getD 2 undef = .func (.func 70) #[] #[] := (ho 2 (by kernel_rfl)).trans rfl
         unfold Oper.wp
         go_simp
         exact Stepped.at rfl hd bR (FU_mk _ rfl (by show (_ : Value) = _; first | rfl | (rw [HC.out]; first | rfl | simp) | (rw [HC.out]; simp [*])))
       · intro ac wz hb hd hs ho hp
         refine gon_or1 (k := 4) (d := 39) rfl (by kernel_rfl) (uval_at hp 4 39 (by kernel_rfl) rfl) (fun hc d hd => FU_mk _ rfl (by rw [hc]; rfl)) fun hc => ?_
         have HC := Hi hc
         clear hc
         have h0 : ac.tmps.getD 0 undef = .slice a L.length cap := (ho 0 (by kernel_rfl)).trans rfl
         unfold Oper.wp
         go_simp
         exact Stepped.at rfl hd bR (FU_mk _ rfl (by show (_ : Value) = _; first | rfl | (rw [HC.out]; first | rfl | simp) | (rw [HC.out]; simp [*])))
       · intro ac wz hb hd hs ho hp
         refine gon_or1 (k := 4) (d := 39) rfl (by kernel_rfl) (uval_at hp 4 39 (by kernel_rfl) rfl) (fun hc d hd => FU_mk _ rfl (by rw [hc]; rfl)) fun hc => ?_
         have HC := Hi hc
         clear hc
         have h9 : ac.tmps.getD 9 undef = .int .i64 (xi) := (ho 9 (by kernel_rfl)).trans rfl
         unfold Oper.wp
         go_simp
         exact Stepped.at rfl hd bR (FU_mk _ rfl (by show (_ : Value) = _; first | rfl | (rw [HC.out]; first | rfl | simp) | (rw [HC.out]; simp [*])))
       · intro ac wz hb hd hs ho hp
         refine gon_or1 (k := 4) (d := 39) rfl (by kernel_rfl) (uval_at hp 4 39 (by kernel_rfl) rfl) (fun hc d hd => FU_mk _ rfl (by rw [hc]; rfl)) fun hc => ?_
         have HC := Hi hc
         clear hc
         have h41 := uval_at hp 6 41 (by kernel_rfl) rfl
         rw [HC.out, cond_true] at h41
         have h42 := uval_at hp 7 42 (by kernel_rfl) rfl
         rw [HC.out, cond_true] at h42
         have hj0 : xi < L.length := by
             have h := gon_r HC.out
             rw [← hB38] at h
             have h2 : (xi : Int) < (L.length : Int) := by simpa using h
             omega
         rw [(HX.out hj0).1] at h41
         have i2 : (0 : Int) ≤ (xi : Int) := by omega
         have i3 : (xi : Int) < (L.length : Int) := by omega
         unfold Oper.wp
         go_simp
         exact Stepped.at rfl hd bR (FU_mk _ rfl (by show (_ : Value) = _; first | rfl | (rw [HC.out]; first | rfl | simp) | (rw [HC.out]; simp [*])))
       · intro ac wz hb hd hs ho hp
         refine gon_or1 (k := 4) (d := 39) rfl (by kernel_rfl) (uval_at hp 4 39 (by kernel_rfl) rfl) (fun hc d hd => FU_mk _ rfl (by rw [hc]; rfl)) fun hc => ?_
         have HC := Hi hc
         clear hc
         have h43 := uval_at hp 8 43 (by kernel_rfl) rfl
         rw [HC.out, cond_true] at h43
         have hj0 : xi < L.length := by
             have h := gon_r HC.out
             rw [← hB38] at h
             have h2 : (xi : Int) < (L.length : Int) := by simpa using h
             omega
         have HX2 := Hi (HX.out hj0).2
         have x0 := (hb.cell (p := ⟨g, off + xi * 4, none⟩) HX2.out.1).trans HX2.out.2.1
         have x1 := (hb.cell (p := ⟨g, off + xi * 4 + 1, none⟩) HX2.out.1).trans HX2.out.2.2.1
         have x2 := (hb.cell (p := ⟨g, off + xi * 4 + 2, none⟩) HX2.out.1).trans HX2.out.2.2.2.1
         have x3 := (hb.cell (p := ⟨g, off + xi * 4 + 3, none⟩) HX2.out.1).trans HX2.out.2.2.2.2
         unfold Oper.wp
         go_simp
         exact Stepped.at rfl hd bR (FU_mk _ rfl (by show (_ : Value) = _; first | rfl | (rw [HC.out]; first | rfl | simp) | (rw [HC.out]; simp [*])))
       · intro ac wz hb hd hs ho hp
         refine gon_or1 (k := 4) (d := 39) rfl (by kernel_rfl) (uval_at hp 4 39 (by kernel_rfl) rfl) (fun hc d hd => FU_mk _ rfl (by rw [hc]; rfl)) fun hc => ?_
         have HC := Hi hc
         clear hc
         have h4 : ac.tmps.getD 4 undef = .pointer (some ⟨n4, 0, none⟩) := (ho 4 (by kernel_rfl)).trans rfl
         have hx := (hb.block n4 (gL HQ.out)).trans HQ.out
         have x0 := cells_at hx 0 _ rfl
         have x1 := cells_at hx 1 _ rfl
         have x2 := cells_at hx 2 _ rfl
         have x3 := cells_at hx 3 _ rfl
         unfold Oper.wp
         go_simp
         exact Stepped.at rfl hd bR (FU_mk _ rfl (by show (_ : Value) = _; first | rfl | (rw [HC.out]; first | rfl | simp) | (rw [HC.out]; simp [*])))
       · intro ac wz hb hd hs ho hp
         refine gon_or1 (k := 4) (d := 39) rfl (by kernel_rfl) (uval_at hp 4 39 (by kernel_rfl) rfl) (fun hc d hd => FU_mk _ rfl (by rw [hc]; rfl)) fun hc => ?_
         have HC := Hi hc
         clear hc
         have h40 := uval_at hp 5 40 (by kernel_rfl) rfl
         rw [HC.out, cond_true] at h40
         have h44 := uval_at hp 9 44 (by kernel_rfl) rfl
         rw [HC.out, cond_true] at h44
         have h45 := uval_at hp 10 45 (by kernel_rfl) rfl
         rw [HC.out, cond_true] at h45
         have hj0 : xi < L.length := by
             have h := gon_r HC.out
             rw [← hB38] at h
             have h2 : (xi : Int) < (L.length : Int) := by simpa using h
             omega
         unfold Oper.wp
         go_simp
         refine (HCMP.out hj0 _ hb).mono ?_
         rintro e2 w2 ⟨rfl, hb2⟩
         exact Stepped.at rfl hd (hb2) (FU_mk _ rfl (by show (_ : Value) = _; rw [HC.out]; first | rfl | simp))
       · intro ac wz hb hd hs ho hp
         refine gon_or1 (k := 4) (d := 39) rfl (by kernel_rfl) (uval_at hp 4 39 (by kernel_rfl) rfl) (fun hc d hd => FU_mk _ rfl (by rw [hc]; rfl)) fun hc => ?_
         have HC := Hi hc
         clear hc
         have h46 := uval_at hp 11 46 (by kernel_rfl) rfl
         rw [HC.out, cond_true] at h46
         unfold Oper.wp
         go_simp
         exact Stepped.at rfl hd bR (FU_mk _ rfl (by show (_ : Value) = _; first | rfl | (rw [HC.out]; rw [← hB47]; first | rfl | simp) | (rw [HC.out]; simp [*])))
       · intro ac wz hb hd hs ho hp
         refine Or.inl ⟨rfl, ?_⟩
         have h39 := uval_at hp 4 39 (by kernel_rfl) rfl
         rcases bool_of h39 with e | e
         · rw [e] at h39
           have E := Hi e
           clear e
           have h47 := uval_at hp 12 47 (by kernel_rfl) rfl
           rw [gon_mk rfl E.out, cond_true] at h47
           unfold Oper.wp
           go_simp
           exact Stepped.at rfl hd bR (FU_mk _ rfl (by show (_ : Value) = _; first | (simp only [E.out, Bool.true_and]; done) | simp [E.out]))
         · rw [e] at h39
           have E := Hi e
           clear e
           unfold Oper.wp
           go_simp
           exact Stepped.at rfl hd bR (FU_mk _ rfl (by show (_ : Value) = _; first | (simp only [E.out, Bool.false_and]; done) | simp [E.out]))
       · intro ac wz hb hd hs ho hp
         refine Or.inl ⟨rfl, ?_⟩
         have h35 := uval_at hp 0 35 (by kernel_rfl) rfl
         unfold Oper.wp
         go_simp
         exact Stepped.at rfl hd bR (FU_mk _ rfl (by show (_ : Value) = _; first | rfl | (first | rfl | simp) | (simp [*])))
       · intro ac wz hb hd hs ho hp
         refine Or.inl ⟨rfl, ?_⟩
         have h48 := uval_at hp 13 48 (by kernel_rfl) rfl
         unfold Oper.wp
         go_simp
         exact Stepped.at rfl hd bR (FU_mk _ rfl (by show (_ : Value) = _; first | rfl | (first | rfl | simp) | (simp [*])))
     intro ac W2 hJ
     have f6 : ac.tmps.getD 6 undef = .int .i64 (xi) := FU_at (.val (.int .i64 (xi))) rfl (hJ.at_end 14 6 (by kernel_rfl))
     have f7 : ac.tmps.getD 7 undef = .bool ((B38 && B47)) := FU_at (.val (.bool ((B38 && B47)))) rfl (hJ.at_end 15 7 (by kernel_rfl))
     have e7 : ((B38 && B47)) = foundT L (.mk k n s us) := HST.out.symm
     rw [e7] at f7
     clear e7
     obtain ⟨u35, f35⟩ := exV (ac.tmps.getD 35 undef)
     obtain ⟨u36, f36⟩ := exV (ac.tmps.getD 36 undef)
     obtain ⟨u37, f37⟩ := exV (ac.tmps.getD 37 undef)
     obtain ⟨u38, f38⟩ := exV (ac.tmps.getD 38 undef)
     obtain ⟨u39, f39⟩ := exV (ac.tmps.getD 39 undef)
     obtain ⟨u40, f40⟩ := exV (ac.tmps.getD 40 undef)
     obtain ⟨u41, f41⟩ := exV (ac.tmps.getD 41 undef)
     obtain ⟨u42, f42⟩ := exV (ac.tmps.getD 42 undef)
     obtain ⟨u43, f43⟩ := exV (ac.tmps.getD 43 undef)
     obtain ⟨u44, f44⟩ := exV (ac.tmps.getD 44 undef)
     obtain ⟨u45, f45⟩ := exV (ac.tmps.getD 45 undef)
     obtain ⟨u46, f46⟩ := exV (ac.tmps.getD 46 undef)
     obtain ⟨u47, f47⟩ := exV (ac.tmps.getD 47 undef)
     obtain ⟨u48, f48⟩ := exV (ac.tmps.getD 48 undef)
     have bw := hJ.below
     obtain ⟨TT, DD⟩ := ac
     obtain rfl : DD = [] := hJ.defers
     have hE := slots_merge [false, false, false, false, false, false, true, true, false, false, false, false, false, false, false, false, false, false, false, false, false, false, false, false, false, false, false, false, false, false, false, false, false, false, false, true, true, true, true, true, true, true, true, true, true, true, true, true, true] 49 hJ.tmps rfl (by kernel_rfl) hJ.outer
     simp only [mergeFrom, Nat.zero_add, Nat.reduceAdd, f35, f36, f37, f38, f39, f40, f41, f42, f43, f44, f45, f46, f47, f48, f6, f7] at hE
     clear hJ f35 f36 f37 f38 f39 f40 f41 f42 f43 f44 f45 f46 f47 f48 f6 f7 hB38 hB47
     subst hE
     have HB2 := Hi (HB.out.trans (bw.mono HB.out.size))
     clear bw
     go_wp2
     go_ret2
     exact ⟨by rw [HXE.out]; rfl, HB2.out⟩
end Go.Proofs.YtlmdhlckgbgfhaaGreatDoor
namespace Go.Proofs.YtlmdhlckgbgfhaaGreatDoor
open Go.RowKit Go.Shelf
attribute [local go_sem] Oper.semAt_some

theorem catch_boom (P1 P2 : Nat) (hne : P1 ≠ P2) (a : Option Addr) (n c : Nat) (x : Int) (w : World) (h1 : Boxed w P1 22 (.slice a n c)) (h2 : Boxed w P2 32 (.int .i64 x)) :
   CallsD Tryz.prog 32 #[.pointer (some ⟨P1, 0, none⟩), .pointer (some ⟨P2, 0, none⟩)] (.panicking ({ v := .iface 32 (.int .i64 5), recovered := false } :: [])) w fun e u' w' =>
     e = .returned (.tuple #[]) ∧ u' = .panicking ({ v := .iface 32 (.int .i64 5), recovered := true } :: []) ∧ w' = (w.setCell ⟨P1, 0, none⟩ (.slice none 0 0)).setCell ⟨P2, 0, none⟩ (.int .i64 5) := by
 have c1 := h1.cell
 have f1 := h1.frozen
 have h2' := h2.other hne.symm (.slice none 0 0)
 have c2 := h2'.cell
 have f2 := h2'.frozen
 refine callsD_of_wpS Tryz.func32 rfl fun c₀ cs hu => ?_
 apply wpS_seq
 apply wpS_region
 simp [wpOpsS, go_sem, recoverD, hu, Tryz.ntmps32, Exit.thenS]
 refine wpS_cond (t := true) (by simp [Act.eval, Array.replicate]) ?_
 simp only [if_true]
 apply wpS_region
 simp [wpOpsS, go_sem, c1, f1, c2, f2, bodyPostS, results, Tryz.results32]

theorem catch_idle (P1 P2 : Nat) (w : World) :
   CallsD Tryz.prog 32 #[.pointer (some ⟨P1, 0, none⟩), .pointer (some ⟨P2, 0, none⟩)] .returning w fun e u' w' => e = .returned (.tuple #[]) ∧ u' = .returning ∧ w' = w := by
 refine callsD_of_wpS Tryz.func32 rfl fun c₀ cs hu => ?_
 apply wpS_seq
 apply wpS_region
 simp [wpOpsS, go_sem, recoverD, hu, Tryz.ntmps32, Exit.thenS]
 refine wpS_cond (t := false) (by simp [Act.eval, Array.replicate]) ?_
 simp only [Bool.false_eq_true, if_false]
 refine wpS_of_wp (Go.wp_skip ?_)
 cases c₀
 simp_all [bodyPostS, results, Tryz.results32]

theorem oper_ar {s : ByteArray} {m : Nat} (h : operB s m = true) : m ≤ 2 ∧ ∃ o, arOf s.toList m = some o := by
 unfold operB at h
 split at h
 · rename_i h1
   have h1 : s.toList = [45] := by simpa using h1
   simp only [Bool.or_eq_true, decide_eq_true_eq] at h
   rcases h with rfl | rfl
   · exact ⟨by omega, .neg, by rw [h1]; rfl⟩
   · exact ⟨by omega, .sub, by rw [h1]; rfl⟩
 · simp only [Bool.and_eq_true, Bool.or_eq_true, decide_eq_true_eq, beq_iff_eq] at h
   obtain ⟨h1, rfl⟩ := h
   refine ⟨by omega, ?_⟩
   rcases h1 with ((h1 | h1) | h1) | h1 <;> rw [h1]
   · exact ⟨.add, rfl⟩
   · exact ⟨.mul, rfl⟩
   · exact ⟨.quo, rfl⟩
   · exact ⟨.rem, rfl⟩
theorem req_wf {k n : Int} {s : ByteArray} {m : Nat} (h : reqB k n s m = true) : m ≤ 8 ∧ (k = 4 → 1 ≤ m) ∧ (k = 5 → ∃ o, arOf s.toList m = some o) ∧ (k = 6 → m = 2) ∧ (k = 1 → -2147483647 ≤ n ∧ n ≤ 2147483647) := by
 unfold reqB at h
 by_cases k1 : k = 1
 · rw [if_pos k1] at h
   simp only [Bool.and_eq_true, decide_eq_true_eq] at h
   exact ⟨by omega, fun e => by omega, fun e => by omega, fun e => by omega, fun _ => ⟨h.1.1.1, h.1.1.2⟩⟩
 rw [if_neg k1] at h
 by_cases k2 : k = 2
 · rw [if_pos k2] at h
   simp only [Bool.and_eq_true, decide_eq_true_eq] at h
   exact ⟨by omega, fun e => by omega, fun e => by omega, fun e => by omega, fun e => by omega⟩
 rw [if_neg k2] at h
 by_cases k3 : k = 3
 · rw [if_pos k3] at h
   simp only [Bool.and_eq_true, decide_eq_true_eq] at h
   exact ⟨by omega, fun e => by omega, fun e => by omega, fun e => by omega, fun e => by omega⟩
 rw [if_neg k3] at h
 by_cases k4 : k = 4
 · rw [if_pos k4] at h
   simp only [Bool.and_eq_true, decide_eq_true_eq] at h
   exact ⟨by omega, fun e => by omega, fun e => by omega, fun e => by omega, fun e => by omega⟩
 rw [if_neg k4] at h
 by_cases k5 : k = 5
 · rw [if_pos k5] at h
   simp only [Bool.and_eq_true, decide_eq_true_eq] at h
   have := oper_ar h.2
   exact ⟨by omega, fun e => by omega, fun _ => this.2, fun e => by omega, fun e => by omega⟩
 rw [if_neg k5] at h
 by_cases k6 : k = 6
 · rw [if_pos k6] at h
   simp only [Bool.and_eq_true, decide_eq_true_eq] at h
   exact ⟨by omega, fun e => by omega, fun e => by omega, fun e => by omega, fun e => by omega⟩
 rw [if_neg k6] at h
 cases h
mutual
theorem wf_of : ∀ (t : Tm) (l : Nat), (t.nodes l).all nodeOkB = true → t.Wf ∧ t.WfL8
 | .mk k n s args, l, h => by
   simp only [Tm.nodes, List.all_cons, Bool.and_eq_true] at h
   have h1 := h.1
   unfold nodeOkB at h1
   rw [Bool.and_eq_true] at h1
   have hr := req_wf h1.2
   simp only [Tm.args, Tm.name] at hr
   have hl := wfL_of args (l + 1) h.2
   simp only [Tm.Wf, Tm.WfL8]
   exact ⟨⟨hr.1, hr.2.1, hr.2.2.1, hr.2.2.2.1, hr.2.2.2.2, hl.1⟩, hr.1, hl.2⟩
theorem wfL_of : ∀ (ts : List Tm) (l : Nat), (Tm.nodesL l ts).all nodeOkB = true → Tm.WfL ts ∧ Tm.WfL8L ts
 | [], _, _ => by simp only [Tm.WfL, Tm.WfL8L]; exact ⟨trivial, trivial⟩
 | t :: ts, l, h => by
   simp only [Tm.nodesL, List.all_append, Bool.and_eq_true] at h
   have h1 := wf_of t l h.1
   have h2 := wfL_of ts l h.2
   simp only [Tm.WfL, Tm.WfL8L]
   exact ⟨⟨h1.1, h2.1⟩, h1.2, h2.2⟩
end
theorem valid_wf {t : Tm} (h : t.validB = true) : t.Wf ∧ t.WfL8 := wf_of t 1 h
end Go.Proofs.YtlmdhlckgbgfhaaGreatDoor
namespace Go.Proofs.YtlmdhlckgbgfhaaGreatDoor
open Go.RowKit Go.Shelf
attribute [local go_sem] Oper.semAt_some

theorem exp_small (t : Tm) : t.WfL8 → ∀ ts, t.exp = some ts → ∀ u ∈ ts, u.WfL8 := by
 induction t using Tm.ind with
 | h k n s us ih =>
   intro hw ts h
   simp only [Tm.WfL8] at hw
   have hnum : ∀ (l : List Int), ∀ u ∈ l.map numT, u.WfL8 := fun l u hu => by
     obtain ⟨m, _, rfl⟩ := List.mem_map.1 hu
     unfold numT
     simp only [Tm.WfL8, Tm.WfL8L]; exact ⟨by simp, trivial⟩
   by_cases h4 : k = 4
   · subst h4
     rw [Tm.exp_fun, Option.bind_eq_some_iff] at h
     obtain ⟨ls, hls, h⟩ := h
     obtain ⟨hl, he⟩ := Tm.expL_some hls
     split at h
     · cases h
       intro u hu
       obtain ⟨c, hc, rfl⟩ := List.mem_map.1 hu
       obtain ⟨hcl, hci⟩ := (combos_mem ls c).1 hc
       simp only [Tm.WfL8]
       refine ⟨by omega, ?_⟩
       have hall : ∀ x ∈ c, x.WfL8 := fun x hx => by
         obtain ⟨i, hi, rfl⟩ := List.getElem_of_mem hx
         exact ih us[i] (List.getElem_mem (by omega)) (Tm.WfL8_mem hw.2 (List.getElem_mem (by omega))) _ (he i (by omega) (by omega)) _ (hci i hi (by omega))
       clear hcl hci hc hu
       induction c with
       | nil => simp only [Tm.WfL8L]
       | cons x c ihc =>
         simp only [Tm.WfL8L]
         exact ⟨hall x (by simp), ihc fun y hy => hall y (by simp [hy])⟩
     · cases h
   · by_cases h5 : k = 5
     · subst h5
       rw [Tm.exp_op, Option.bind_eq_some_iff] at h
       obtain ⟨ls, _, h⟩ := h
       split at h
       · cases h
       · split at h
         · cases h; exact hnum _
         · cases h
     · by_cases h6 : k = 6
       · subst h6
         rw [Tm.exp_span, Option.bind_eq_some_iff] at h
         obtain ⟨ls, _, h⟩ := h
         split at h
         · split at h
           · cases h; exact hnum _
           · cases h
         · cases h; intro u hu; cases hu
       · rw [Tm.exp_leaf h4 h5 h6] at h
         cases h
         intro u hu
         obtain rfl : u = .mk k n s [] := by simpa using hu
         simp only [Tm.WfL8, Tm.WfL8L]; exact ⟨by simp, trivial⟩
theorem Vals.setLow {B P o : Nat} {W : World} {v x : Value} {ts : List Tm} (h : Vals none B W v ts) (hP : P < B) : Vals none B (W.setCell ⟨P, o, none⟩ x) v ts := by
 obtain ⟨xs, ho, hh, hx⟩ := h
 refine ⟨xs, ownsRow_setCell_below ho hP x, hh.keep fun b hf => ⟨⟨hf.1, by simpa [World.setCell] using hf.2.1, hf.2.2⟩, Below.heap_setCell _ _ _ b (by have := hf.1; simp; omega)⟩, fun g e => by cases e⟩
theorem HoldL.set {ok : Nat → Prop} {w : World} {d0 d1 d2 d3 : Value} : ∀ {ts : List Tm} {xs : List Value}, HoldL ok w xs ts → ∀ j (h : j < ts.length), IsTmIn ok w d0 d1 d2 d3 ts[j] → HoldL ok w ((((xs.set (j * 4) d0).set (j * 4 + 1) d1).set (j * 4 + 2) d2).set (j * 4 + 3) d3) ts
 | [], _, _, j, h, _ => absurd h (by simp)
 | t :: ts, _, ⟨c0, c1, c2, c3, r, e, ht, hr⟩, j, h, hi => by
   subst e
   cases j with
   | zero => exact ⟨d0, d1, d2, d3, r, rfl, hi, hr⟩
   | succ j =>
     refine ⟨c0, c1, c2, c3, (((r.set (j * 4) d0).set (j * 4 + 1) d1).set (j * 4 + 2) d2).set (j * 4 + 3) d3, ?_, ht, HoldL.set hr j (by simpa using h) (by simpa using hi)⟩
     rw [show (j + 1) * 4 = j * 4 + 4 from by omega]
     rfl
def FnD (H : Nat) (V : Value) (j : Nat) (A : Value) (u : Tm) : Facts := fun i v w => match i with
 | 0 => v = V
 | 1 => v = .int .i64 j
 | 2 => v = A
 | 3 => ∃ k n s a m c, v = .agg #[.int .u8 k, .int .i64 n, .string s, .slice a m c] ∧ IsTmIn (fun b => H ≤ b ∧ b < w.heap.size) w (.int .u8 k) (.int .i64 n) (.string s) (.slice a m c) u
 | _ => True
theorem FnD_grow (H : Nat) (V : Value) (j : Nat) (A : Value) (u : Tm) (i : Nat) (v : Value) (w w' : World) (h : FnD H V j A u i v w) (hb : Below w.heap.size w w') : FnD H V j A u i v w' := by
 match i with
 | 0 | 1 | 2 => exact h
 | 3 =>
   obtain ⟨k, n, s, a, m, c, h1, h2⟩ := h
   exact ⟨k, n, s, a, m, c, h1, h2.keep fun b hf => ⟨⟨hf.1, Nat.lt_of_lt_of_le hf.2 hb.size⟩, hb.block b hf.2⟩⟩
 | i + 4 => trivial
def XL (B N : Nat) (w : World) (V : Value) (ts : List Tm) (wl : World) : Prop :=
 Vals none B wl V ts ∧ Boxed wl (N + 1) 22 V ∧ Boxed wl (N + 1 + 1) 32 (.int .i64 0) ∧ Below N w wl ∧ B ≤ wl.heap.size
def XRes (t : Tm) (B : Nat) (w' : World) (v : Value) (er : Int) : Prop :=
 ((t.validB && t.groundB) = false ∧ v = .slice none 0 0 ∧ er = 2) ∨ ((t.validB && t.groundB) = true ∧ t.exp = none ∧ v = .slice none 0 0 ∧ er = 5) ∨ ((t.validB && t.groundB) = true ∧ ∃ ts, t.exp = some ts ∧ er = 0 ∧ Vals none B w' v ts)
def XPost (t : Tm) (w : World) (e : Ending) (w' : World) : Prop := ∃ v er, e = .returned (.tuple #[v, .int .i64 er]) ∧ Below w.heap.size w w' ∧ XRes t w.heap.size w' v er

theorem two_set {W : World} {P : Nat} {t1 t2 : TypeId} {v1 v2 : Value} (h1 : Boxed W P t1 v1) (h2 : Boxed W (P + 1) t2 v2) (a b : Value) :
   Boxed ((W.setCell ⟨P, 0, none⟩ a).setCell ⟨P + 1, 0, none⟩ b) P t1 a ∧ Boxed ((W.setCell ⟨P, 0, none⟩ a).setCell ⟨P + 1, 0, none⟩ b) (P + 1) t2 b :=
 ⟨(h1.set a).other (by omega) b, (h2.other (by omega) a).set b⟩

theorem expandApi_any (t : Tm) (c0 c1 c2 c3 : Value) (w : World) (ht : IsTm w.heap.size w c0 c1 c2 c3 t) (hdep : t.depth < 4611686018427387900) : Calls Tryz.prog 10 #[.agg #[c0, c1, c2, c3]] w (XPost t w) := by
 have ht0 := ht
 obtain ⟨k, n, s, us⟩ := t
 simp only [IsTm] at ht
 obtain ⟨rfl, hk, rfl, hn, rfl, hss, a, cap, rfl, hl, _⟩ := ht
 obtain ⟨t, hte⟩ : ∃ t, Tm.mk k n s us = t := ⟨_, rfl⟩
 rw [hte] at ht0 hdep ⊢
 clear hte
 have hmf : ∀ (fn : Fn) (first cap : Array Value) (w : World), (Instr.makeFunc fn first cap).run Tryz.prog w = .ok (.func fn first cap) w := fun _ _ _ _ => rfl
 obtain ⟨W0, hW0⟩ : ∃ W0, ((w.alloc (.cells #[.int .u8 k, .int .i64 n, .string s, .slice a us.length cap] 24)).alloc (.cells #[.slice none 0 0] 22)).alloc (.cells #[.int .i64 0] 32) = W0 := ⟨_, rfl⟩
 have hb0 : Below w.heap.size w W0 := by rw [← hW0]; exact (((Below.refl _ w).alloc (Nat.le_refl _) _).alloc (by simp) _).alloc (by simp; omega) _
 have hsz : W0.heap.size = w.heap.size + 3 := by rw [← hW0]; simp
 have hN : W0.heap[w.heap.size]? = some (.cells #[.int .u8 k, .int .i64 n, .string s, .slice a us.length cap] 24 (0, 0)) := by
   rw [← hW0]; exact (Below.heap_alloc _ _ _ (by simp; omega)).trans ((Below.heap_alloc _ _ _ (by simp)).trans (World.alloc_heap_new _ _))
 have hP1 : Boxed W0 (w.heap.size + 1) 22 (.slice none 0 0) := by
   rw [← hW0]; have := Boxed.new (w.alloc (.cells #[.int .u8 k, .int .i64 n, .string s, .slice a us.length cap] 24)) 22 (.slice none 0 0); rw [World.size_alloc] at this; exact this.alloc _
 have hP2 : Boxed W0 (w.heap.size + 1 + 1) 32 (.int .i64 0) := by
   rw [← hW0]; have := Boxed.new ((w.alloc (.cells #[.int .u8 k, .int .i64 n, .string s, .slice a us.length cap] 24)).alloc (.cells #[.slice none 0 0] 22)) 32 (.int .i64 0); rw [World.size_alloc, World.size_alloc] at this; exact this
 have x0 := cells_at hN 0 _ rfl
 have x1 := cells_at hN 1 _ rfl
 have x2 := cells_at hN 2 _ rfl
 have x3 := cells_at hN 3 _ rfl
 have HV := Hi (valid_any t _ _ _ _ W0 ((ht0.below hb0).mono hb0.size) hdep)
 cases hv : t.validB
 · rw [hv] at HV
   have HX := Hi (show (t.validB && t.groundB) = false by rw [hv]; rfl)
   clear hv
   go_enter_defers Tryz.func10, Tryz.ntmps10
   go_wp2_with (go_at_call 7; refine HV.out.mono ?_)
   clear HV
   rintro e W1 ⟨rfl, hb1⟩
   have z1 := hb1.size
   have hN1 := (hb1.block w.heap.size (by omega)).trans hN
   have hP1' : Boxed W1 (w.heap.size + 1) 22 (.slice none 0 0) := (hb1.block _ (by omega)).trans hP1
   have hP2' : Boxed W1 (w.heap.size + 1 + 1) 32 (.int .i64 0) := (hb1.block _ (by omega)).trans hP2
   have x0 := cells_at hN1 0 _ rfl
   have x1 := cells_at hN1 1 _ rfl
   have x2 := cells_at hN1 2 _ rfl
   have x3 := cells_at hN1 3 _ rfl
   have p1 := hP1'.cell
   have p2 := hP2'.cell
   have q1 := hP1'.frozen
   have q2 := hP2'.frozen
   have hBW := hb0.trans (hb1.mono hb0.size)
   have HB := Hi hBW
   clear hb1 hBW hN1 hN hb0
   have HP1 := Hi hP1'
   have HP2 := Hi hP2'
   go_wp2
   have e1 := (HP1.out.set (.slice none 0 0)).cell
   have e2 := (two_set HP1.out HP2.out (.slice none 0 0) (.int .i64 2)).2.cell
   have e3 := (two_set HP1.out HP2.out (.slice none 0 0) (.int .i64 2)).1.cell
   refine ⟨.tuple #[.slice none 0 0, .int .i64 2], by simp [results, Tryz.f10, go_sem, e2, e3], ?_⟩
   exact ⟨_, _, rfl, (HB.out.setCell (p := ⟨w.heap.size + 1, 0, none⟩) (by simp) _).setCell (p := ⟨w.heap.size + 1 + 1, 0, none⟩) (by simp; omega) _, .inl ⟨HX.out, rfl, rfl⟩⟩
 · have HW := Hi (valid_wf hv)
   have HVV := Hi hv
   rw [hv] at HV
   clear hv
   go_enter_defers Tryz.func10, Tryz.ntmps10
   go_wp2_with (go_at_call 7; refine HV.out.mono ?_)
   clear HV
   rintro e W1 ⟨rfl, hb1⟩
   have z1 := hb1.size
   have hN1 := (hb1.block w.heap.size (by omega)).trans hN
   have hP1' : Boxed W1 (w.heap.size + 1) 22 (.slice none 0 0) := (hb1.block _ (by omega)).trans hP1
   have hP2' : Boxed W1 (w.heap.size + 1 + 1) 32 (.int .i64 0) := (hb1.block _ (by omega)).trans hP2
   have x0 := cells_at hN1 0 _ rfl
   have x1 := cells_at hN1 1 _ rfl
   have x2 := cells_at hN1 2 _ rfl
   have x3 := cells_at hN1 3 _ rfl
   have p1 := hP1'.cell
   have p2 := hP2'.cell
   have q1 := hP1'.frozen
   have q2 := hP2'.frozen
   have hBW := hb0.trans (hb1.mono hb0.size)
   have HG := Hi (ground_any t _ _ _ _ W1 ((ht0.below hBW).mono hBW.size) hdep)
   have HB1 := Hi hBW
   have HHP1 := Hi hP1'
   have HHP2 := Hi hP2'
   have HHN := Hi hN1
   clear hb1 hBW hN1 hN hb0 hP1 hP2 hP1' hP2'
   cases hg : t.groundB
   · rw [hg] at HG
     have HX := Hi (show (t.validB && t.groundB) = false by rw [hg, Bool.and_false])
     clear hg
     go_wp2_with (go_at_call 31; refine HG.out.mono ?_)
     clear HG
     rintro e W2 ⟨rfl, hb2⟩
     have z2 := hb2.size
     have hBW2 := HB1.out.trans (hb2.mono HB1.out.size)
     have zw := HB1.out.size
     have hN2 := (hb2.block w.heap.size (by omega)).trans HHN.out
     have hP1'' : Boxed W2 (w.heap.size + 1) 22 (.slice none 0 0) := (hb2.block _ (by omega)).trans HHP1.out
     have hP2'' : Boxed W2 (w.heap.size + 1 + 1) 32 (.int .i64 0) := (hb2.block _ (by omega)).trans HHP2.out
     have x0 := cells_at hN2 0 _ rfl
     have x1 := cells_at hN2 1 _ rfl
     have x2 := cells_at hN2 2 _ rfl
     have x3 := cells_at hN2 3 _ rfl
     have p1 := hP1''.cell
     have p2 := hP2''.cell
     have q1 := hP1''.frozen
     have q2 := hP2''.frozen
     have HP1 := Hi hP1''
     have HP2 := Hi hP2''
     have HB2 := Hi hBW2
     clear hb2 hBW2 hN2 hP1'' hP2''
     go_wp2
     have e1 := (HP1.out.set (.slice none 0 0)).cell
     have e2 := (two_set HP1.out HP2.out (.slice none 0 0) (.int .i64 2)).2.cell
     have e3 := (two_set HP1.out HP2.out (.slice none 0 0) (.int .i64 2)).1.cell
     refine ⟨.tuple #[.slice none 0 0, .int .i64 2], by simp [results, Tryz.f10, go_sem, e2, e3], ?_⟩
     exact ⟨_, _, rfl, (HB2.out.setCell (p := ⟨w.heap.size + 1, 0, none⟩) (by simp) _).setCell (p := ⟨w.heap.size + 1 + 1, 0, none⟩) (by simp; omega) _, .inl ⟨HX.out, rfl, rfl⟩⟩
   · rw [hg] at HG
     have HX := Hi (show (t.validB && t.groundB) = true by rw [hg, HVV.out]; rfl)
     clear hg
     go_wp2_with (go_at_call 31; refine HG.out.mono ?_)
     clear HG
     rintro e W2 ⟨rfl, hb2⟩
     have z2 := hb2.size
     have hBW2 := HB1.out.trans (hb2.mono HB1.out.size)
     have zw := HB1.out.size
     have hN2 := (hb2.block w.heap.size (by omega)).trans HHN.out
     have hP1'' : Boxed W2 (w.heap.size + 1) 22 (.slice none 0 0) := (hb2.block _ (by omega)).trans HHP1.out
     have hP2'' : Boxed W2 (w.heap.size + 1 + 1) 32 (.int .i64 0) := (hb2.block _ (by omega)).trans HHP2.out
     have x0 := cells_at hN2 0 _ rfl
     have x1 := cells_at hN2 1 _ rfl
     have x2 := cells_at hN2 2 _ rfl
     have x3 := cells_at hN2 3 _ rfl
     have p1 := hP1''.cell
     have p2 := hP2''.cell
     have q1 := hP1''.frozen
     have q2 := hP2''.frozen
     have HP1 := Hi hP1''
     have HP2 := Hi hP2''
     have HE := Hi (expand_any t _ _ _ _ W2 ((ht0.below hBW2).mono hBW2.size) HW.out.1)
     have HB2 := Hi hBW2
     have HN2 := Hi hN2
     clear hb2 hBW2 hN2 hP1'' hP2''
     go_wp2_with (go_at_call 33; refine HE.out.mono ?_)
     clear HE
     rintro e W3 (⟨ts, v, r1, rfl, r3, r4⟩ | ⟨r1, rfl, r4⟩)
     · have hts := exp_le r1
       have hsm := exp_small t HW.out.2 ts r1
       obtain ⟨va, vn, vc, rfl⟩ := r3.slice
       have z3 := r4.size
       have hvn : vn = ts.length := by
         obtain ⟨_, ho, _⟩ := r3
         rcases ho.2 with ⟨e, h0⟩ | ⟨_, _, _, e, _⟩
         · cases e; exact h0.symm
         · cases e; rfl
       subst hvn
       have hP1f : Boxed W3 (w.heap.size + 1) 22 (.slice none 0 0) := (r4.block _ (by omega)).trans HP1.out
       have hP2f : Boxed W3 (w.heap.size + 1 + 1) 32 (.int .i64 0) := (r4.block _ (by omega)).trans HP2.out
       have HBf := HB2.out.trans (r4.mono HB2.out.size)
       have zW2 := HB2.out.size
       have e1 := hP1f.cell
       have f1 := hP1f.frozen
       have hX0 : XL W2.heap.size w.heap.size w (.slice va ts.length vc) ts (W3.setCell ⟨w.heap.size + 1, 0, none⟩ (.slice va ts.length vc)) :=
         ⟨r3.setLow (by omega), hP1f.set _, hP2f.other (by omega) _, HBf.setCell (p := ⟨w.heap.size + 1, 0, none⟩) (by simp) _, by simpa [World.setCell] using z3⟩
       obtain ⟨W4, hW4⟩ : ∃ W4, W3.setCell ⟨w.heap.size + 1, 0, none⟩ (.slice va ts.length vc) = W4 := ⟨_, rfl⟩
       rw [hW4] at hX0
       have e4 := hX0.2.1.cell
       have HX0 := Hi hX0
       have HSM := Hi hsm
       clear hX0 hsm r3 r4 hP1f hP2f HBf
       go_wp2
       go_loopw [19] (fun i wl => ∃ j : Nat, j ≤ ts.length ∧ i = .int .i64 j ∧ XL W2.heap.size w.heap.size w (.slice va ts.length vc) ts wl) (fun i _ => ts.length - (intOf i).toNat)
       case atStart => exact ⟨0, Nat.zero_le _, rfl, HX0.out⟩
       case round =>
         obtain ⟨j, hj, rfl, hVl, hb1, hb2, hBl, hBs⟩ := hrel
         have v1 := hb1.cell
         by_cases hlt : j < ts.length
         · obtain ⟨xs, hO, hH, _⟩ := hVl
           obtain ⟨g, hga⟩ : ∃ g, va = some ⟨g, 0, none⟩ := by
             rcases hO.2 with ⟨e, h0⟩ | ⟨g, _, _, e, _⟩
             · omega
             · cases e; exact ⟨g, rfl⟩
           subst hga
           obtain ⟨d0, d1, d2, d3, m0, m1, m2, m3, hin⟩ := hH.at j hlt
           have hS8 := HSM.out _ (List.getElem_mem hlt)
           have g0 := (hO.cellAt (j * 4) (by omega)).trans m0
           have g1 := (hO.cellAt (j * 4 + 1) (by omega)).trans m1
           have g2 := (hO.cellAt (j * 4 + 2) (by omega)).trans m2
           have g3 := (hO.cellAt (j * 4 + 3) (by omega)).trans m3
           obtain ⟨u, hq⟩ : ∃ u, ts[j] = u := ⟨_, rfl⟩
           have hq0 := hq
           rw [hq] at hin hS8
           obtain ⟨k', n', s', as'⟩ := u
           have hin0 := hin
           simp only [IsTmIn] at hin
           obtain ⟨rfl, _, rfl, _, rfl, _, a', cap', rfl, _, _⟩ := hin
           have HIN := Hi hin0
           have HS8 := Hi hS8
           have HO := Hi hO
           have HH := Hi hH
           have HQ := Hi hq0
           have HBL := Hi hBl
           have HB1' := Hi hb1
           have HB2' := Hi hb2
           have zL := hBl.size
           have zg := hO.lt g rfl
           have zP1 := hb1.lt
           have hA : Below wr.heap.size wr (wr.alloc (.cells #[.int .u8 k', .int .i64 n', .string s', .slice a' as'.length cap'] 24)) := (Below.refl _ wr).alloc (Nat.le_refl _) _
           clear m0 m1 m2 m3 hq hq0 hin0 hS8 hO hH hBl hb1 hb2
           have i1 : (0 : Int) ≤ (j : Int) := by omega
           have i2 : (j : Int) < (ts.length : Int) := by omega
           go_wp2
           refine wp_region_grow_tail (by kernel_rfl) 4 (FnD wr.heap.size (.slice (some ⟨g, 0, none⟩) ts.length vc) j (.agg #[.int .u8 k', .int .i64 n', .string s', .slice a' as'.length cap']) (.mk k' n' s' as')) (FnD_grow _ _ _ _ _) (by kernel_rfl) (by kernel_rfl) (steps_to ⟨?_, ?_, ?_, ?_, trivial⟩) ?_
           · intro a2 wx hb2 hd hs ho2 hp
             refine ⟨rfl, ?_⟩
             have q : a2.tmps.getD 2 undef = _ := (ho2 2 (by kernel_rfl)).trans rfl
             have y := ((hA.trans (hb2.mono hA.size)).cell (p := ⟨w.heap.size + 1, 0, none⟩) (by show w.heap.size + 1 < _; omega)).trans v1
             unfold Oper.wp
             go_simp
             exact Stepped.at rfl hd bR rfl
           · intro a2 wx hb2 hd hs ho2 hp
             refine ⟨rfl, ?_⟩
             have q : a2.tmps.getD 4 undef = .int .i64 j := (ho2 4 (by kernel_rfl)).trans rfl
             unfold Oper.wp
             go_simp
             exact Stepped.at rfl hd bR rfl
           · intro a2 wx hb2 hd hs ho2 hp
             refine ⟨rfl, ?_⟩
             have q : a2.tmps.getD 5 undef = .pointer (some ⟨wr.heap.size, 0, none⟩) := (ho2 5 (by kernel_rfl)).trans rfl
             have hnb := (hb2.block wr.heap.size (by simp)).trans (World.alloc_heap_new wr (.cells #[.int .u8 k', .int .i64 n', .string s', .slice a' as'.length cap'] 24))
             have y0 := cells_at hnb 0 _ rfl
             have y1 := cells_at hnb 1 _ rfl
             have y2 := cells_at hnb 2 _ rfl
             have y3 := cells_at hnb 3 _ rfl
             unfold Oper.wp
             go_simp
             exact Stepped.at (v := .agg #[.int .u8 k', .int .i64 n', .string s', .slice a' as'.length cap']) rfl hd bR rfl
           · intro a2 wx hb2 hd hs ho2 hp
             refine ⟨rfl, ?_⟩
             have q : a2.tmps.getD 26 undef = .agg #[.int .u8 k', .int .i64 n', .string s', .slice a' as'.length cap'] := facts_at hp 2 26 (by kernel_rfl)
             have hbx := hA.trans (hb2.mono hA.size)
             have HD := Hi (detach_any (.mk k' n' s' as') _ _ _ _ wx ((HIN.out.isTm (B := wx.heap.size) (fun b hf => by have := hf.2.1; have := hbx.size; omega) |> fun h => (HIN.out.keep (ok' := (· < wr.heap.size)) (w' := wx) (fun b hf => ⟨hf.2.1, hbx.block b hf.2.1⟩)).isTm (fun b hb => by have := hbx.size; have hb : b < wr.heap.size := hb; omega))) HS8.out)
             unfold Oper.wp
             go_simp
             refine HD.out.mono ?_
             rintro e w2 ⟨y0, y1, y2, y3, rfl, hi2, hb4⟩
             have hi3 := hi2
             simp only [IsTmIn] at hi3
             obtain ⟨rfl, _, rfl, _, rfl, _, a2', cap2, rfl, _, _⟩ := hi3
             exact Stepped.at (v := .agg #[.int .u8 k', .int .i64 n', .string s', .slice a2' as'.length cap2]) rfl hd hb4 ⟨_, _, _, _, _, _, rfl, hi2.keep fun b hf => ⟨⟨by have := hbx.size; omega, hf.2⟩, rfl⟩⟩
           intro a2 wx hbx hd hs ho2 hf
           have hbw := hA.trans (hbx.mono hA.size)
           have k24 : a2.tmps.getD 24 undef = .slice (some ⟨g, 0, none⟩) ts.length vc := facts_to hf 0 24 (by decide) (by kernel_rfl)
           have k25 : a2.tmps.getD 25 undef = .int .i64 j := facts_to hf 1 25 (by decide) (by kernel_rfl)
           obtain ⟨dk, dn, ds, da, dm, dc, k27, hdi⟩ : FnD wr.heap.size (.slice (some ⟨g, 0, none⟩) ts.length vc) j (.agg #[.int .u8 k', .int .i64 n', .string s', .slice a' as'.length cap']) (.mk k' n' s' as') 3 (a2.tmps.getD 27 undef) wx := facts_to hf 3 27 (by decide) (by kernel_rfl)
           obtain ⟨T, D⟩ := a2
           simp only at hd hs k24 k25 k27 ho2
           subst hd
           have hE2 := slots_all T 31 (hs.trans rfl)
           simp only [List.range, List.range.loop, List.map, k24, k25, k27, ho2 0 (by kernel_rfl), ho2 1 (by kernel_rfl), ho2 2 (by kernel_rfl), ho2 3 (by kernel_rfl), ho2 4 (by kernel_rfl), ho2 5 (by kernel_rfl), ho2 6 (by kernel_rfl), ho2 7 (by kernel_rfl), ho2 8 (by kernel_rfl), ho2 9 (by kernel_rfl), ho2 10 (by kernel_rfl), ho2 11 (by kernel_rfl), ho2 12 (by kernel_rfl), ho2 13 (by kernel_rfl), ho2 14 (by kernel_rfl), ho2 15 (by kernel_rfl), ho2 16 (by kernel_rfl), ho2 17 (by kernel_rfl), ho2 18 (by kernel_rfl), ho2 19 (by kernel_rfl), ho2 20 (by kernel_rfl), ho2 21 (by kernel_rfl), ho2 22 (by kernel_rfl), ho2 23 (by kernel_rfl), ho2 28 (by kernel_rfl), ho2 29 (by kernel_rfl), ho2 30 (by kernel_rfl)] at hE2
           rw [hE2]
           clear hE2 hf k24 k25 k27 ho2 hs
           have hOx := own_grown HO.out hbw
           have hxl : xs.length = ts.length * 4 := hOx.1
           have c0 := hOx.cellAt (j * 4) (by omega)
           have c1 := hOx.cellAt (j * 4 + 1) (by omega)
           have c2 := hOx.cellAt (j * 4 + 2) (by omega)
           have c3 := hOx.cellAt (j * 4 + 3) (by omega)
           rw [List.getElem?_eq_getElem (by omega)] at c0 c1 c2 c3
           have f0 := hOx.frozenAt (j * 4)
           have f1 := hOx.frozenAt (j * 4 + 1)
           have f2 := hOx.frozenAt (j * 4 + 2)
           have f3 := hOx.frozenAt (j * 4 + 3)
           have HDI := Hi hdi
           have HBW := Hi hbw
           have HOX := Hi hOx
           clear hdi hbx hOx hbw
           go_wp2
           have zx := HBW.out.size
           have hbg : ∀ b, b ≠ g → ((((wx.setCell ⟨g, j * 4, none⟩ (.int .u8 dk)).setCell ⟨g, j * 4 + 1, none⟩ (.int .i64 dn)).setCell ⟨g, j * 4 + 2, none⟩ (.string ds)).setCell ⟨g, j * 4 + 3, none⟩ (.slice da dm dc)).heap[b]? = wx.heap[b]? := fun b hb =>
             (Below.heap_setCell _ _ _ b (by simpa using hb)).trans ((Below.heap_setCell _ _ _ b (by simpa using hb)).trans ((Below.heap_setCell _ _ _ b (by simpa using hb)).trans (Below.heap_setCell _ _ _ b (by simpa using hb))))
           have hzz : ((((wx.setCell ⟨g, j * 4, none⟩ (.int .u8 dk)).setCell ⟨g, j * 4 + 1, none⟩ (.int .i64 dn)).setCell ⟨g, j * 4 + 2, none⟩ (.string ds)).setCell ⟨g, j * 4 + 3, none⟩ (.slice da dm dc)).heap.size = wx.heap.size := by simp [World.setCell]
           refine ⟨⟨j + 1, by omega, by simp, ⟨_, ((((HOX.out.stored (j * 4) (.int .u8 dk)).1.stored (j * 4 + 1) (.int .i64 dn)).1.stored (j * 4 + 2) (.string ds)).1.stored (j * 4 + 3) (.slice da dm dc)).1, ?_, fun g' e => by cases e⟩, ?_, ?_, ?_, ?_⟩, by simp [intOf]; omega⟩
           · refine HoldL.set (HH.out.keep fun b hf => ⟨⟨hf.1, by rw [hzz]; have := hf.2.1; omega, hf.2.2⟩, (hbg b fun e => hf.2.2.1 (by rw [e]; rfl)).trans (HBW.out.block b hf.2.1)⟩) j hlt ?_
             rw [HQ.out]
             refine HDI.out.keep fun b hf => ?_
             have hb1 := hf.1
             refine ⟨⟨by omega, by rw [hzz]; exact hf.2, fun e => ?_, by simp⟩, hbg b (by omega)⟩
             have e : g = b := by simpa [Value.ownBlock] using e
             omega
           · exact boxed_off (boxed_off (boxed_off (boxed_off ((HBW.out.block _ (by omega)).trans HB1'.out) (by omega) _) (by omega) _) (by omega) _) (by omega) _
           · exact boxed_off (boxed_off (boxed_off (boxed_off ((HBW.out.block _ (by omega)).trans HB2'.out) (by omega) _) (by omega) _) (by omega) _) (by omega) _
           · exact ((((HBL.out.trans (HBW.out.mono zL)).setCell (p := ⟨g, j * 4, none⟩) (by show w.heap.size ≤ g; omega) _).setCell (p := ⟨g, j * 4 + 1, none⟩) (by show w.heap.size ≤ g; omega) _).setCell (p := ⟨g, j * 4 + 2, none⟩) (by show w.heap.size ≤ g; omega) _).setCell (p := ⟨g, j * 4 + 3, none⟩) (by show w.heap.size ≤ g; omega) _
           · rw [hzz]; omega
         · have hje : j = ts.length := by omega
           subst hje
           have q1 := hb1.frozen
           have v2 := hb2.cell
           have q2 := hb2.frozen
           have HVl := Hi hVl
           have HB1' := Hi hb1
           have HB2' := Hi hb2
           have HBL := Hi hBl
           have e1' := (hb1.set (.slice va ts.length vc)).cell
           have e2' := (two_set hb1 hb2 (.slice va ts.length vc) (.int .i64 0)).2.cell
           have e3' := (two_set hb1 hb2 (.slice va ts.length vc) (.int .i64 0)).1.cell
           have o2 := hb2.other (show w.heap.size + 1 + 1 ≠ w.heap.size + 1 by omega) (.slice va ts.length vc)
           have o2c := o2.cell
           have o2f := o2.frozen
           clear hVl hb1 hb2 hBl o2
           go_wp2
           refine leaves_cons (f := 32) (args := #[.pointer (some ⟨w.heap.size + 1, 0, none⟩), .pointer (some ⟨w.heap.size + 1 + 1, 0, none⟩)]) (by simp) (by simp [go_sem]) ?_
           refine (catch_idle _ _ _).mono ?_
           rintro e u' w'' ⟨rfl, rfl, rfl⟩
           refine ⟨.tuple #[.slice va ts.length vc, .int .i64 0], by simp [results, Tryz.f10, go_sem, e2', e3'], ?_⟩
           exact ⟨_, _, rfl, (HBL.out.setCell (p := ⟨w.heap.size + 1, 0, none⟩) (by simp) _).setCell (p := ⟨w.heap.size + 1 + 1, 0, none⟩) (by simp; omega) _, .inr (.inr ⟨HX.out, ts, r1, rfl, ((HVl.out.setLow (by omega)).setLow (by omega)).lower (by omega)⟩)⟩
     · have z3 := r4.size
       have hP1f : Boxed W3 (w.heap.size + 1) 22 (.slice none 0 0) := (r4.block _ (by omega)).trans HP1.out
       have hP2f : Boxed W3 (w.heap.size + 1 + 1) 32 (.int .i64 0) := (r4.block _ (by omega)).trans HP2.out
       have e1 := (hP1f.set (.slice none 0 0)).cell
       have e2 := (two_set hP1f hP2f (.slice none 0 0) (.int .i64 5)).2.cell
       have e3 := (two_set hP1f hP2f (.slice none 0 0) (.int .i64 5)).1.cell
       have HBf := HB2.out.trans (r4.mono HB2.out.size)
       refine leaves_cons (f := 32) (args := #[.pointer (some ⟨w.heap.size + 1, 0, none⟩), .pointer (some ⟨w.heap.size + 1 + 1, 0, none⟩)]) (by simp) (by simp [go_sem]) ?_
       refine (catch_boom _ _ (by omega) none 0 0 0 W3 hP1f hP2f).mono ?_
       rintro e u' w'' ⟨rfl, rfl, rfl⟩
       refine ⟨.tuple #[.slice none 0 0, .int .i64 5], by simp [results, Tryz.f10, go_sem, e2, e3], ?_⟩
       exact ⟨_, _, rfl, (HBf.setCell (p := ⟨w.heap.size + 1, 0, none⟩) (by simp) _).setCell (p := ⟨w.heap.size + 1 + 1, 0, none⟩) (by simp; omega) _, .inr (.inl ⟨HX.out, r1, rfl, rfl⟩)⟩
end Go.Proofs.YtlmdhlckgbgfhaaGreatDoor
namespace Go.Proofs.YtlmdhlckgbgfhaaGreatDoor
open Go.RowKit

mutual
def sizeT (t : Tm) (m : Int) : Int := match t with
 | .mk _ _ _ args => 1 + sizeL args 0 (m - 1)
def sizeL (ts : List Tm) (n m : Int) : Int := match ts with
 | [] => n
 | t :: ts => if n ≤ m then sizeL ts (n + sizeT t (m - n)) m else n
end
mutual
theorem sizeT_bounds : ∀ (t : Tm) (m : Int), 1 ≤ sizeT t m ∧ (sizeT t m ≤ 1 ∨ sizeT t m ≤ m + 1)
 | .mk _ _ _ args, m => by
   simp only [sizeT]
   have := sizeL_bounds args 0 (m - 1)
   omega
theorem sizeL_bounds : ∀ (ts : List Tm) (n m : Int), n ≤ sizeL ts n m ∧ (sizeL ts n m ≤ n ∨ sizeL ts n m ≤ m + 1)
 | [], n, m => by simp only [sizeL]; omega
 | t :: ts, n, m => by
   simp only [sizeL]
   split
   · have h1 := sizeT_bounds t (m - n)
     have h2 := sizeL_bounds ts (n + sizeT t (m - n)) m
     omega
   · omega
end
mutual
theorem sizeT_whole : ∀ (t : Tm) (m : Int), sizeT t m ≤ m → sizeT t m = t.count
 | .mk _ _ _ args, m => by
   simp only [sizeT, Tm.count]
   intro h
   have := sizeL_whole args 0 (m - 1) (by omega)
   omega
theorem sizeL_whole : ∀ (ts : List Tm) (n m : Int), sizeL ts n m ≤ m → sizeL ts n m = n + Tm.countL ts
 | [], n, m => by simp only [sizeL, Tm.countL]; omega
 | t :: ts, n, m => by
   simp only [sizeL, Tm.countL]
   split
   · intro h
     have h0 := (sizeL_bounds ts (n + sizeT t (m - n)) m).1
     have h1 := sizeT_whole t (m - n) (by omega)
     have h2 := sizeL_whole ts _ m h
     omega
   · intro h; omega
end
def SzAt (B : Nat) (t : Tm) : Prop := ∀ (c0 c1 c2 c3 : Value) (m : Int) (W : World), IsTm B W c0 c1 c2 c3 t → B ≤ W.heap.size → -1000000000 ≤ m → m ≤ 1000000000 →
 Calls Tryz.prog 24 #[.agg #[c0, c1, c2, c3], .int .i64 m] W fun e W' => e = .returned (.int .i64 (sizeT t m)) ∧ Below W.heap.size W W'

theorem sizeTerms_at (B : Nat) (us : List Tm) (ih : ∀ t ∈ us, SzAt B t) (a : Option Addr) (cap : Nat) (m : Int) (W : World) (hB : B ≤ W.heap.size) (hl : us.length ≤ maxLen) (hm0 : -1000000001 ≤ m) (hm1 : m ≤ 1000000000)
   (hargs : us ≠ [] → ∃ b off, a = some ⟨b, off, none⟩ ∧ b < B ∧ IsTms B W b off us) :
   Calls Tryz.prog 23 #[.slice a us.length cap, .int .i64 m] W fun e W' => e = .returned (.int .i64 (sizeL us 0 m)) ∧ Below W.heap.size W W' := by
 unfold maxLen at hl
 have HA := Hi hargs; clear hargs
 have IH := Hi ih; clear ih
 have hbd := (sizeL_bounds us 0 m)
 obtain ⟨R, hR⟩ : ∃ R, sizeL us 0 m = R := ⟨_, rfl⟩
 rw [hR] at hbd ⊢
 go_enter Tryz.func23, Tryz.ntmps23
 go_wp2_with fail
 go_loopw [5, 6] (fun n i wr => ∃ (j : Nat) (k : Int), j ≤ us.length ∧ i = .int .i64 j ∧ n = .int .i64 k ∧ 0 ≤ k ∧ sizeL (us.drop j) k m = R ∧ Below W.heap.size W wr) (fun _ i _ => us.length - (intOf i).toNat)
 case atStart => exact ⟨0, 0, by omega, by go_num, by go_num, by omega, by simpa using hR, Below.refl _ _⟩
 case round =>
   obtain ⟨j, k, hj, rfl, rfl, hk0, hk, hBr⟩ := hrel
   have hkR : k ≤ R := by rw [← hk]; exact (sizeL_bounds _ _ _).1
   clear hR
   by_cases hlt : j < us.length
   · rw [List.drop_eq_getElem_cons hlt] at hk
     simp only [sizeL] at hk
     by_cases hkm : k ≤ m
     · rw [if_pos hkm] at hk
       obtain ⟨b, off, rfl, hb, hI⟩ := HA.out (by intro e; rw [e] at hlt; simp at hlt)
       obtain ⟨c0, c1, c2, c3, e0, e1, e2, e3, hc⟩ := hI.at j hlt
       have g0 := (hBr.cell (p := ⟨b, off + j * 4, none⟩) (by show b < _; omega)).trans e0
       have g1 := (hBr.cell (p := ⟨b, off + j * 4 + 1, none⟩) (by show b < _; omega)).trans e1
       have g2 := (hBr.cell (p := ⟨b, off + j * 4 + 2, none⟩) (by show b < _; omega)).trans e2
       have g3 := (hBr.cell (p := ⟨b, off + j * 4 + 3, none⟩) (by show b < _; omega)).trans e3
       have hsz := hBr.size
       have HS := Hi (IH.out us[j] (List.getElem_mem hlt) c0 c1 c2 c3 (m - k) wr (hc.below (hBr.mono hB)) (by omega) (by omega) (by omega))
       have hp := sizeT_bounds us[j] (m - k)
       obtain ⟨s, hs⟩ : ∃ s, sizeT us[j] (m - k) = s := ⟨_, rfl⟩
       rw [hs] at hp hk HS
       have HK := Hi hk
       have HB := Hi hBr
       clear e0 e1 e2 e3 hc hs hk hBr
       have i1 : (0 : Int) ≤ (j : Int) := by omega
       have i2 : (j : Int) < (us.length : Int) := by omega
       go_wp2_with (go_at_call 24; refine HS.out.mono ?_; clear HS; rintro e W2 ⟨rfl, hB2⟩)
       go_roundw
       case rel => exact ⟨j + 1, k + s, by omega, by go_num, by go_num, by omega, HK.out, HB.out.trans (hB2.mono HB.out.size)⟩
       case measure => simp [intOf]; omega
     · rw [if_neg hkm] at hk
       subst hk
       have HB := Hi hBr
       clear hBr
       go_wp2
       go_ret
       exact ⟨rfl, HB.out⟩
   · rw [List.drop_eq_nil_of_le (by omega)] at hk
     simp only [sizeL] at hk
     subst hk
     have HB := Hi hBr
     clear hBr
     go_wp2
     go_ret
     exact ⟨rfl, HB.out⟩

theorem sizeTerm_at (B : Nat) (t : Tm) : SzAt B t := by
 induction t using Tm.ind with
 | h k n s us ih =>
   intro c0 c1 c2 c3 m W h hB hm0 hm1
   simp only [IsTm] at h
   obtain ⟨rfl, hk, rfl, hn, rfl, hs, a, cap, rfl, hl, hargs⟩ := h
   have hB1 : Below W.heap.size W (W.alloc (.cells #[.int .u8 k, .int .i64 n, .string s, .slice a us.length cap] 24)) := (Below.refl _ W).alloc (Nat.le_refl _) _
   have hS := sizeTerms_at B us ih a cap (m - 1) _ (Nat.le_trans hB hB1.size) hl (by omega) (by omega) (fun hne => by obtain ⟨b, off, h1, h2, h3⟩ := hargs hne; exact ⟨b, off, h1, h2, h3.below (hB1.mono hB) h2⟩)
   have hbd := sizeL_bounds us 0 (m - 1)
   have hT : sizeT (.mk k n s us) m = 1 + sizeL us 0 (m - 1) := by simp only [sizeT]
   rw [hT]
   obtain ⟨R, hR⟩ : ∃ R, sizeL us 0 (m - 1) = R := ⟨_, rfl⟩
   rw [hR] at hS hbd ⊢
   have HS := Hi hS
   have HB := Hi hB1
   clear hS hR hT hB1 hargs ih hl hs hn hk
   go_enter Tryz.func24, Tryz.ntmps24
   go_wp2_with (go_at_call 23; refine HS.out.mono ?_; clear HS; rintro e W2 ⟨rfl, hB2⟩)
   have hBf := HB.out.trans (hB2.mono HB.out.size)
   go_ret
   exact ⟨by go_num, hBf⟩

theorem sizeTerm_any (t : Tm) (c0 c1 c2 c3 : Value) (m : Int) (W : World) (ht : IsTm W.heap.size W c0 c1 c2 c3 t) (hm0 : -1000000000 ≤ m) (hm1 : m ≤ 1000000000) :
   Calls Tryz.prog 24 #[.agg #[c0, c1, c2, c3], .int .i64 m] W fun e W' => e = .returned (.int .i64 (sizeT t m)) ∧ Below W.heap.size W W' :=
 sizeTerm_at W.heap.size t c0 c1 c2 c3 m W ht (Nat.le_refl _) hm0 hm1
theorem sizeTerms_any (us : List Tm) (a : Option Addr) (cap : Nat) (m : Int) (W : World) (hl : us.length ≤ maxLen) (hm0 : -1000000001 ≤ m) (hm1 : m ≤ 1000000000)
   (hargs : us ≠ [] → ∃ b off, a = some ⟨b, off, none⟩ ∧ b < W.heap.size ∧ IsTms W.heap.size W b off us) :
   Calls Tryz.prog 23 #[.slice a us.length cap, .int .i64 m] W fun e W' => e = .returned (.int .i64 (sizeL us 0 m)) ∧ Below W.heap.size W W' :=
 sizeTerms_at W.heap.size us (fun t _ => sizeTerm_at _ t) a cap m W (Nat.le_refl _) hl hm0 hm1 hargs
end Go.Proofs.YtlmdhlckgbgfhaaGreatDoor
