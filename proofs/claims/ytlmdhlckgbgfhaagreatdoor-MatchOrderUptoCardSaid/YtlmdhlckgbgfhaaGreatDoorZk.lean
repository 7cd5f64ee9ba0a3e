/- Texts that belong together: Expansions are sorted: the part of the mathematics of arith that package match needs. Package match: expands: the value for an open part is one of its expansions. Package match: all, for terms: every one valid, every one a value. Package match: all, for open parts. Package match: binding: the pairs in memory of their own. Package match: what matchAll needs of its parts. Package match: what matchin -/
import Derived.Test.YtlmdhlckgbgfhaaGreatDoorZj
import Derived.Test.YtlmdhlckgbgfhaaGreatDoorZc
import Derived.Test.YtlmdhlckgbgfhaaGreatDoorZi
import Derived.Test.YtlmdhlckgbgfhaaGreatDoorZh
import Derived.IntWalk
import Derived.StillTailTactics
import Derived.Deep.QuietTactic
import Derived.BigQuiet
set_option maxRecDepth 100000
set_option maxHeartbeats 400000000
namespace Go.Proofs.YtlmdhlckgbgfhaaGreatDoor
open Go.RowKit

def Lt (a b : Tm) : Prop := Tm.cmp a b = -1
theorem strCmp_self (s : ByteArray) : strCmp s s = 0 := by rw [strCmp_eq]; exact byC_zero.2 rfl
theorem cint_self (n : Int) : Lib.compareInt n n = 0 := int_zero.2 rfl
mutual
theorem cmp_same : ∀ t : Tm, Tm.cmp t t = 0
 | .mk k n s us => by
   simp only [Tm.cmp, cint_self, strCmp_self, cmpL_same us]
   simp [orI]
theorem cmpL_same : ∀ ts : List Tm, Tm.cmpL ts ts = 0
 | [] => rfl
 | t :: ts => by simp only [Tm.cmpL, cmp_same t, cmpL_same ts]; simp
end
theorem cint_lt {a b : Int} (h : a < b) : Lib.compareInt a b = -1 := by unfold Lib.compareInt; rw [if_pos h]
theorem num_lt {a b : Int} (h : a < b) : Lt (numT a) (numT b) := by
 unfold Lt numT
 simp only [Tm.cmp, cint_self]
 rw [if_neg (by omega), if_pos ⟨trivial, by omega⟩, cint_lt h]
theorem fun_lt {s : ByteArray} {c d : List Tm} (hl : c.length = d.length) (h : Tm.cmpL c d = -1) : Lt (.mk 4 0 s c) (.mk 4 0 s d) := by
 unfold Lt
 simp only [Tm.cmp, cint_self, strCmp_self, hl, h]
 simp [orI]
theorem combos_sorted : ∀ ls : List (List Tm), (∀ l ∈ ls, l.Pairwise Lt) → (combos ls).Pairwise fun c d => Tm.cmpL c d = -1
 | [], _ => by simp [combos]
 | l :: ls, h => by
   simp only [combos]
   rw [List.pairwise_flatMap]
   have ih := combos_sorted ls fun x hx => h x (List.mem_cons_of_mem _ hx)
   constructor
   · intro x _
     rw [List.pairwise_map]
     refine ih.imp ?_
     intro c d hcd
     simp only [Tm.cmpL, cmp_same, hcd]
     simp
   · refine (h l (by simp)).imp ?_
     intro x y hxy c hc d hd
     obtain ⟨c', _, rfl⟩ := List.mem_map.1 hc
     obtain ⟨d', _, rfl⟩ := List.mem_map.1 hd
     unfold Lt at hxy
     simp only [Tm.cmpL, hxy]
     simp
theorem nums_inc {l : List Int} (h : l.Pairwise (· < ·)) : (l.map numT).Pairwise Lt := by
 rw [List.pairwise_map]
 exact h.imp fun hab => num_lt hab
theorem sortI_inc {l : List Int} (h : l.Nodup) : (sortI l).Pairwise (· < ·) := by
 have h1 : (sortI l).Pairwise fun a b => decide (a ≤ b) = true := List.pairwise_mergeSort (fun a b c h1 h2 => by simp at *; omega) (fun a b => by simp; omega) l
 have h2 : (sortI l).Nodup := (List.mergeSort_perm l _).nodup_iff.2 h
 refine (h1.and h2).imp ?_
 rintro a b ⟨h3, h4⟩
 have h5 : a ≤ b := by simpa using h3
 have h6 : a ≠ b := h4
 omega
theorem spanL_inc (a b : Int) : (spanL a b).Pairwise (· < ·) := by
 unfold spanL
 rw [List.pairwise_map]
 exact List.pairwise_lt_range.imp fun h => by omega

theorem exp_sorted (t : Tm) : ∀ l, t.exp = some l → l.Pairwise Lt := by
 induction t using Tm.ind with
 | h k n s args ih =>
   intro l hx
   simp only [Tm.exp] at hx
   by_cases h4 : k = 4
   · subst h4
     simp only [if_true, Option.bind_eq_some_iff] at hx
     obtain ⟨ls, hls, hx⟩ := hx
     split at hx
     · cases hx
       rw [List.pairwise_map]
       have hs := Tm.expL_some hls
       have hp := combos_sorted ls fun l hl => by
         obtain ⟨i, hi, rfl⟩ := List.mem_iff_getElem.1 hl
         exact ih args[i] (List.getElem_mem (by omega)) _ (hs.2 i (by omega) hi)
       refine List.Pairwise.imp_of_mem ?_ hp
       intro c d hc hd hcd
       exact fun_lt (by rw [combos_length ls c hc, combos_length ls d hd]) hcd
     · cases hx
   · rw [if_neg h4] at hx
     by_cases h5 : k = 5
     · subst h5
       simp only [if_true, Option.bind_eq_some_iff] at hx
       obtain ⟨ls, _, hx⟩ := hx
       split at hx
       · cases hx
       · split at hx
         · cases hx
           exact nums_inc (sortI_inc (resultsI_nodup _ _))
         · cases hx
     · rw [if_neg h5] at hx
       by_cases h6 : k = 6
       · subst h6
         simp only [if_true, Option.bind_eq_some_iff] at hx
         obtain ⟨ls, _, hx⟩ := hx
         split at hx
         · split at hx
           · cases hx
             exact nums_inc (spanL_inc _ _)
           · cases hx
         · cases hx
           exact List.Pairwise.nil
       · rw [if_neg h6] at hx
         cases hx
         exact List.pairwise_singleton _ _

end Go.Proofs.YtlmdhlckgbgfhaaGreatDoor
namespace Go.Proofs.YtlmdhlckgbgfhaaGreatDoor
open Go.RowKit Go.Shelf
attribute [local go_sem] Oper.semAt_some

def expOf (t : Tm) : List Tm := if t.validB && t.groundB then t.exp.getD [] else []
theorem expOf_sorted (t : Tm) : (expOf t).Pairwise fun a b => Tm.cmp a b = -1 := by
 unfold expOf
 split
 · cases h : t.exp with
   | none => exact List.Pairwise.nil
   | some l => exact exp_sorted t l h
 · exact List.Pairwise.nil
theorem expOf_len (t : Tm) : (expOf t).length ≤ 1000 := by
 unfold expOf
 split
 · cases h : t.exp with
   | none => exact Nat.zero_le _
   | some l => exact exp_le h
 · exact Nat.zero_le _
theorem XRes.row {t : Tm} {B : Nat} {w : World} {v : Value} {er : Int} (h : XRes t B w v er) : RowV w v (expOf t) := by
 rcases h with ⟨h1, rfl, _⟩ | ⟨h1, h2, rfl, _⟩ | ⟨h1, ts, h2, _, h3⟩
 · unfold expOf; rw [h1]; exact ⟨none, 0, rfl, Nat.zero_le _, fun h => absurd rfl h⟩
 · unfold expOf; rw [h1, h2]; exact ⟨none, 0, rfl, Nat.zero_le _, fun h => absurd rfl h⟩
 · unfold expOf; rw [h1, h2]; exact h3.tms
theorem XRes.grow {t : Tm} {B : Nat} {w w' : World} {v : Value} {er : Int} (h : XRes t B w v er) (hb : Below w.heap.size w w') : XRes t B w' v er := by
 rcases h with h | h | ⟨h1, ts, h2, h3, h4⟩
 · exact Or.inl h
 · exact Or.inr (Or.inl h)
 · exact Or.inr (Or.inr ⟨h1, ts, h2, h3, h4.grow hb⟩)
theorem lookB_mem {b : Bd} {n : ByteArray} {u : Tm} (h : lookB b n = some u) : ∃ x ∈ b, x.2 = u := by
 unfold lookB at h
 rw [Option.map_eq_some_iff] at h
 obtain ⟨x, h1, h2⟩ := h
 exact ⟨x, List.mem_of_find?_eq_some h1, h2⟩
mutual
theorem applyT_depth {b : Bd} {D : Nat} (hb : ∀ x ∈ b, x.2.depth ≤ D) : ∀ t : Tm, (applyT b t).depth ≤ t.depth + D
 | .mk k n s us => by
   have ih := applyTL_depth hb us
   simp only [applyT]
   split
   · split
     · rename_i v hv
       obtain ⟨x, hx, rfl⟩ := lookB_mem hv
       have := hb x hx
       omega
     · simp only [Tm.depth]; omega
   · simp only [Tm.depth]; omega
theorem applyTL_depth {b : Bd} {D : Nat} (hb : ∀ x ∈ b, x.2.depth ≤ D) : ∀ ts : List Tm, Tm.depthL (applyTL b ts) ≤ Tm.depthL ts + D
 | [] => by simp only [applyTL, Tm.depthL]; omega
 | t :: ts => by
   have h1 := applyT_depth hb t
   have h2 := applyTL_depth hb ts
   simp only [applyTL, Tm.depthL]
   omega
end
def expandsB (b : Bd) (p v : Tm) : Bool := foundT (expOf (applyT b p)) v
def FX (P n3 : Nat) (V PA : Value) (t : Tm) (N : Nat) : Facts := fun i v w => match i with
 | 0 => v = .pointer (some ⟨P, 0, none⟩)
 | 1 => v = .pointer (some ⟨P, 0, none⟩)
 | 2 => v = .pointer (some ⟨P, 0, none⟩)
 | 3 => v = V
 | 4 => v = .pointer (some ⟨n3, 0, none⟩)
 | 5 => v = PA
 | 6 => ∃ k n s a l c, v = .agg #[.int .u8 k, .int .i64 n, .string s, .slice a l c] ∧ IsTmIn (fun q => N ≤ q ∧ q < w.heap.size) w (.int .u8 k) (.int .i64 n) (.string s) (.slice a l c) t
 | 7 => ∃ v' er B, v = .tuple #[v', .int .i64 er] ∧ XRes t B w v' er
 | 8 => ∃ v' er B, v = .tuple #[v', .int .i64 er] ∧ XRes t B w v' er
 | 9 => ∃ er B, XRes t B w v er
 | 11 => ∃ er B, XRes t B w v er
 | _ => True
theorem FX_grow {P n3 : Nat} {V PA : Value} {t : Tm} {N : Nat} (i : Nat) (v : Value) (w w' : World) (h : FX P n3 V PA t N i v w) (hb : Below w.heap.size w w') : FX P n3 V PA t N i v w' := by
 match i, h with
 | 0, h => exact h
 | 1, h => exact h
 | 2, h => exact h
 | 3, h => exact h
 | 4, h => exact h
 | 5, h => exact h
 | 6, ⟨k, n, s, a, l, c, h1, h2⟩ => exact ⟨k, n, s, a, l, c, h1, h2.keep fun q hq => ⟨⟨hq.1, Nat.lt_of_lt_of_le hq.2 hb.size⟩, hb.block q hq.2⟩⟩
 | 7, ⟨v', er, B, h1, h2⟩ => exact ⟨v', er, B, h1, h2.grow hb⟩
 | 8, ⟨v', er, B, h1, h2⟩ => exact ⟨v', er, B, h1, h2.grow hb⟩
 | 9, ⟨er, B, h⟩ => exact ⟨er, B, h.grow hb⟩
 | 10, _ => trivial
 | 11, ⟨er, B, h⟩ => exact ⟨er, B, h.grow hb⟩
 | _ + 12, _ => trivial
theorem isTmIn_parts {ok : Nat → Prop} {w : World} {c0 c1 c2 c3 : Value} {t : Tm} (h : IsTmIn ok w c0 c1 c2 c3 t) : ∃ k n s a l c, c0 = .int .u8 k ∧ c1 = .int .i64 n ∧ c2 = .string s ∧ c3 = .slice a l c := by
 obtain ⟨k, n, s, us⟩ := t
 simp only [IsTmIn] at h
 obtain ⟨rfl, _, rfl, _, rfl, _, a, c, rfl, _, _⟩ := h
 exact ⟨_, _, _, _, _, _, rfl, rfl, rfl, rfl⟩
theorem expands_any (P : Nat) (V O : Value) (b : Bd) (p v : Tm) (c0 c1 c2 c3 d0 d1 d2 d3 : Value) (w : World) (hP : w.heap[P]? = some (.cells #[V, O] 94 (0, 0))) (hV : BdV w V b) (hs : Srt b) (hlen : b.length ≤ 1000000) (hcb : ∀ x ∈ b, x.2.count ≤ 1000000)
   (hp : IsTm w.heap.size w c0 c1 c2 c3 p) (hv : IsTm w.heap.size w d0 d1 d2 d3 v) (hc : p.count ≤ 1000000) :
   Calls Tryz.prog 67 #[.pointer (some ⟨P, 0, none⟩), .agg #[c0, c1, c2, c3, d0, d1, d2, d3]] w fun e w' => e = .returned (.bool (expandsB b p v)) ∧ Below w.heap.size w w' := by
 have hp0 := hp
 have hv0 := hv
 have hdp : (applyT b p).depth < 4611686018427387900 := by
   have h1 := applyT_depth (b := b) (D := 1000000) (fun x hx => Nat.le_trans (Tm.depth_le_count _) (hcb x hx)) p
   have h2 := Tm.depth_le_count p
   omega
 have hEX : expandsB b p v = foundT (expOf (applyT b p)) v := rfl
 have HAP0 := Hi (fun (W : World) (hW : Below w.heap.size w W) => mapply_any b hs hlen hcb V p c0 c1 c2 c3 W (hV.grow hW) ((hp0.below hW).mono hW.size) hc)
 obtain ⟨T, hT⟩ : ∃ T, applyT b p = T := ⟨_, rfl⟩
 rw [hT] at hdp hEX HAP0
 have HDP := Hi hdp
 obtain ⟨k2, n2, s2, us2⟩ := p
 obtain ⟨k3, n3', s3, us3⟩ := v
 simp only [IsTm] at hp hv
 obtain ⟨rfl, _, rfl, _, rfl, _, a2, c2, rfl, _, _⟩ := hp
 obtain ⟨rfl, _, rfl, _, rfl, _, a3, c3, rfl, _, _⟩ := hv
 obtain ⟨va, vn, vc, rfl⟩ : ∃ va vn vc, V = .slice va vn vc := by obtain ⟨a, c, e, _⟩ := hV; exact ⟨_, _, _, e⟩
 obtain ⟨l2, hl2⟩ : ∃ l2, us2.length = l2 := ⟨_, rfl⟩
 obtain ⟨l3, hl3⟩ : ∃ l3, us3.length = l3 := ⟨_, rfl⟩
 rw [hl2] at HAP0 hp0 ⊢
 rw [hl3] at hv0 ⊢
 obtain ⟨n3, hn3⟩ : ∃ n3, w.heap.size = n3 := ⟨_, rfl⟩
 obtain ⟨W1, hW1⟩ : ∃ W1, w.alloc (.cells #[.int .u8 k2, .int .i64 n2, .string s2, .slice a2 l2 c2, .int .u8 k3, .int .i64 n3', .string s3, .slice a3 l3 c3] 97) = W1 := ⟨_, rfl⟩
 have hb1 : Below w.heap.size w W1 := by rw [← hW1]; exact (Below.refl _ w).alloc (Nat.le_refl _) _
 have HQ := Hi (show W1.heap[n3]? = some (.cells #[.int .u8 k2, .int .i64 n2, .string s2, .slice a2 l2 c2, .int .u8 k3, .int .i64 n3', .string s3, .slice a3 l3 c3] 97 (0, 0)) by rw [← hW1, ← hn3]; exact World.alloc_heap_new _ _)
 have HP1 := Hi ((hb1.block P (gL hP)).trans hP)
 have HAP := Hi (fun (W : World) (hW : Below W1.heap.size W1 W) => HAP0.out W (hb1.trans (hW.mono hb1.size)))
 have HV1 := Hi ((hv0.below hb1).mono hb1.size)
 have HB1 := Hi hb1
 obtain ⟨V, hVV⟩ : ∃ V, Value.slice va vn vc = V := ⟨_, rfl⟩
 rw [hVV] at HP1 HAP
 have HEX := Hi hEX
 clear hP hV hb1 hp0 hv0 HAP0 hT hdp hEX hVV
 go_enter Tryz.func67, Tryz.ntmps67
 go_wp2_with fail
 clear hW1
 refine wp_region_grow_orB (by kernel_rfl) (FX P n3 V (.agg #[.int .u8 k2, .int .i64 n2, .string s2, .slice a2 l2 c2]) T W1.heap.size) (fun i v w w' h hb => FX_grow i v w w' h hb) (by kernel_rfl) (steps_or ?_) ?_
 · refine ⟨?_, ?_, ?_, ?_, ?_, ?_, ?_, ?_, ?_, ?_, ?_, ?_, ?_, trivial⟩
   · intro a wx hb hd hs ho hp
     refine Or.inl ⟨rfl, ?_⟩
     have h0 : a.tmps.getD 0 undef = .pointer (some ⟨P, 0, none⟩) := (ho 0 (by kernel_rfl)).trans rfl
     unfold Oper.wp
     go_simp
     exact Stepped.at (v := .pointer (some ⟨P, 0, none⟩)) (by first | rfl | simp) hd bR rfl
   · intro a wx hb hd hs ho hp
     refine Or.inl ⟨rfl, ?_⟩
     have h10 : a.tmps.getD 10 undef = .pointer (some ⟨P, 0, none⟩) := facts_at hp 0 10 (by kernel_rfl)
     unfold Oper.wp
     go_simp
     exact Stepped.at (v := .pointer (some ⟨P, 0, none⟩)) (by first | rfl | simp) hd bR rfl
   · intro a wx hb hd hs ho hp
     refine Or.inl ⟨rfl, ?_⟩
     have h11 : a.tmps.getD 11 undef = .pointer (some ⟨P, 0, none⟩) := facts_at hp 1 11 (by kernel_rfl)
     unfold Oper.wp
     go_simp
     exact Stepped.at (v := .pointer (some ⟨P, 0, none⟩)) (by first | rfl | simp) hd bR rfl
   · intro a wx hb hd hs ho hp
     refine Or.inl ⟨rfl, ?_⟩
     have h12 : a.tmps.getD 12 undef = .pointer (some ⟨P, 0, none⟩) := facts_at hp 2 12 (by kernel_rfl)
     have hx := (hb.block P (gL HP1.out)).trans HP1.out
     have x0 := cells_at hx 0 _ rfl
     unfold Oper.wp
     go_simp
     exact Stepped.at (v := V) (by first | rfl | simp) hd bR rfl
   · intro a wx hb hd hs ho hp
     refine Or.inl ⟨rfl, ?_⟩
     have h3 : a.tmps.getD 3 undef = .pointer (some ⟨n3, 0, none⟩) := (ho 3 (by kernel_rfl)).trans rfl
     unfold Oper.wp
     go_simp
     exact Stepped.at (v := .pointer (some ⟨n3, 0, none⟩)) (by first | rfl | simp) hd bR rfl
   · intro a wx hb hd hs ho hp
     refine Or.inl ⟨rfl, ?_⟩
     have h14 : a.tmps.getD 14 undef = .pointer (some ⟨n3, 0, none⟩) := facts_at hp 4 14 (by kernel_rfl)
     have hx := (hb.block n3 (gL HQ.out)).trans HQ.out
     have x0 := cells_at hx 0 _ rfl
     have x1 := cells_at hx 1 _ rfl
     have x2 := cells_at hx 2 _ rfl
     have x3 := cells_at hx 3 _ rfl
     unfold Oper.wp
     go_simp
     exact Stepped.at (v := .agg #[.int .u8 k2, .int .i64 n2, .string s2, .slice a2 l2 c2]) (by first | rfl | simp) hd bR rfl
   · intro a wx hb hd hs ho hp
     refine Or.inl ⟨rfl, ?_⟩
     have h13 : a.tmps.getD 13 undef = V := facts_at hp 3 13 (by kernel_rfl)
     have h15 : a.tmps.getD 15 undef = .agg #[.int .u8 k2, .int .i64 n2, .string s2, .slice a2 l2 c2] := facts_at hp 5 15 (by kernel_rfl)
     unfold Oper.wp
     go_simp
     refine (HAP.out _ hb).mono ?_
     rintro e2 w2 ⟨y0, y1, y2, y3, rfl, hv2, hb2⟩
     have hv3 := isTmIn_parts hv2
     obtain ⟨k4, n4, s4, a4, l4, c4, rfl, rfl, rfl, rfl⟩ := hv3
     exact Stepped.at rfl hd hb2 ⟨_, _, _, _, _, _, rfl, hv2.keep fun q hq => ⟨⟨Nat.le_trans hb.size hq.1, hq.2⟩, rfl⟩⟩
   · intro a wx hb hd hs ho hp
     refine Or.inl ⟨rfl, ?_⟩
     obtain ⟨k4, n4, s4, a4, l4, c4, h16, ht16⟩ : FX P n3 V (.agg #[.int .u8 k2, .int .i64 n2, .string s2, .slice a2 l2 c2]) T W1.heap.size 6 (a.tmps.getD 16 undef) wx := facts_at hp 6 16 (by kernel_rfl)
     unfold Oper.wp
     go_simp
     refine (expandApi_any T _ _ _ _ wx (ht16.isTm fun q hq => hq.2) HDP.out).mono ?_
     rintro e2 w2 ⟨v9, er9, rfl, hb2, hr2⟩
     exact Stepped.at rfl hd hb2 ⟨_, _, _, rfl, hr2⟩
   · intro a wx hb hd hs ho hp
     refine Or.inl ⟨rfl, ?_⟩
     obtain ⟨v9, er9, B9, h17, hr9⟩ : FX P n3 V (.agg #[.int .u8 k2, .int .i64 n2, .string s2, .slice a2 l2 c2]) T W1.heap.size 7 (a.tmps.getD 17 undef) wx := facts_at hp 7 17 (by kernel_rfl)
     unfold Oper.wp
     go_simp
     exact Stepped.at rfl hd bR ⟨_, _, _, rfl, hr9⟩
   · intro a wx hb hd hs ho hp
     refine Or.inl ⟨rfl, ?_⟩
     obtain ⟨v9, er9, B9, h9, hr9⟩ : FX P n3 V (.agg #[.int .u8 k2, .int .i64 n2, .string s2, .slice a2 l2 c2]) T W1.heap.size 8 (a.tmps.getD 9 undef) wx := facts_at hp 8 9 (by kernel_rfl)
     unfold Oper.wp
     go_simp
     exact Stepped.at (v := v9) (by first | rfl | simp) hd bR ⟨_, _, hr9⟩
   · intro a wx hb hd hs ho hp
     refine Or.inl ⟨rfl, ?_⟩
     obtain ⟨v9, er9, B9, h9, hr9⟩ : FX P n3 V (.agg #[.int .u8 k2, .int .i64 n2, .string s2, .slice a2 l2 c2]) T W1.heap.size 8 (a.tmps.getD 9 undef) wx := facts_at hp 8 9 (by kernel_rfl)
     unfold Oper.wp
     go_simp
     exact Stepped.at (v := .int .i64 er9) (by first | rfl | simp) hd bR trivial
   · intro a wx hb hd hs ho hp
     refine Or.inl ⟨rfl, ?_⟩
     obtain ⟨er9, B9, hr9⟩ : FX P n3 V (.agg #[.int .u8 k2, .int .i64 n2, .string s2, .slice a2 l2 c2]) T W1.heap.size 9 (a.tmps.getD 18 undef) wx := facts_at hp 9 18 (by kernel_rfl)
     obtain ⟨u, hu⟩ : ∃ u, a.tmps.getD 18 undef = u := ⟨_, rfl⟩
     rw [hu] at hr9
     have s18 := qslot_of (hs.trans (show _ = 28 from rfl)) (by decide) hu
     unfold Oper.wp
     go_simp
     exact Stepped.at (v := u) (by first | rfl | simp) hd bR ⟨_, _, hr9⟩
   · intro a wx hb hd hs ho hp
     refine Or.inl ⟨rfl, ?_⟩
     obtain ⟨u, hu⟩ : ∃ u, a.tmps.getD 19 undef = u := ⟨_, rfl⟩
     have s19 := qslot_of (hs.trans (show _ = 28 from rfl)) (by decide) hu
     unfold Oper.wp
     go_simp
     exact Stepped.at (v := u) (by first | rfl | simp) hd bR trivial
 intro ac W2 hJ
 obtain ⟨er5, B5, hr5⟩ : FX P n3 V (.agg #[.int .u8 k2, .int .i64 n2, .string s2, .slice a2 l2 c2]) T W1.heap.size 11 (ac.tmps.getD 5 undef) W2 := hJ.at_end 11 5 (by kernel_rfl)
 obtain ⟨u10, f10⟩ := exV (ac.tmps.getD 10 undef)
 obtain ⟨u11, f11⟩ := exV (ac.tmps.getD 11 undef)
 obtain ⟨u12, f12⟩ := exV (ac.tmps.getD 12 undef)
 obtain ⟨u13, f13⟩ := exV (ac.tmps.getD 13 undef)
 obtain ⟨u14, f14⟩ := exV (ac.tmps.getD 14 undef)
 obtain ⟨u15, f15⟩ := exV (ac.tmps.getD 15 undef)
 obtain ⟨u16, f16⟩ := exV (ac.tmps.getD 16 undef)
 obtain ⟨u17, f17⟩ := exV (ac.tmps.getD 17 undef)
 obtain ⟨u9, f9⟩ := exV (ac.tmps.getD 9 undef)
 obtain ⟨u18, f18⟩ := exV (ac.tmps.getD 18 undef)
 obtain ⟨u19, f19⟩ := exV (ac.tmps.getD 19 undef)
 obtain ⟨u5, f5⟩ := exV (ac.tmps.getD 5 undef)
 obtain ⟨u6, f6⟩ := exV (ac.tmps.getD 6 undef)
 rw [f5] at hr5
 have bw := hJ.below
 obtain ⟨TT, DD⟩ := ac
 obtain rfl : DD = [] := hJ.defers
 have hE := slots_merge [false, false, false, false, false, true, true, false, false, true, true, true, true, true, true, true, true, true, true, true, false, false, false, false, false, false, false, false] 28 hJ.tmps rfl (by kernel_rfl) hJ.outer
 simp only [mergeFrom, Nat.zero_add, Nat.reduceAdd, f10, f11, f12, f13, f14, f15, f16, f17, f9, f18, f19, f5, f6] at hE
 clear hJ f10 f11 f12 f13 f14 f15 f16 f17 f9 f18 f19 f5 f6
 subst hE
 have HB2 := Hi (HB1.out.trans (bw.mono HB1.out.size))
 have hrow := hr5.row
 obtain ⟨a5, cap5, rfl, hlm5, hrr⟩ := hrow
 have HS := Hi (searchT_any (expOf T) (expOf_sorted T) a5 cap5 (.mk k3 n3' s3 us3) _ _ _ _ W2 (Nat.le_trans (expOf_len T) (by omega)) hrr ((HV1.out.below bw).mono bw.size))
 have hx := (bw.block n3 (gL HQ.out)).trans HQ.out
 have x4 := cells_at hx 4 _ rfl
 have x5 := cells_at hx 5 _ rfl
 have x6 := cells_at hx 6 _ rfl
 have x7 := cells_at hx 7 _ rfl
 obtain ⟨l5, hl5⟩ : ∃ l5, (expOf T).length = l5 := ⟨_, rfl⟩
 rw [hl5] at HS ⊢
 clear hr5 bw hrr hx hlm5 hl5
 go_wp2_with (go_at_call 99; refine HS.out.mono ?_; rintro e w5 ⟨rfl, hb5⟩)
 go_ret
 exact ⟨by rw [HEX.out]; rfl, HB2.out.trans (hb5.mono HB2.out.size)⟩
end Go.Proofs.YtlmdhlckgbgfhaaGreatDoor
namespace Go.Proofs.YtlmdhlckgbgfhaaGreatDoor
open Go.RowKit Go.Shelf
attribute [local go_sem] Oper.semAt_some

theorem any_take {α : Type} {l : List α} {q : α → Bool} {j : Nat} (h : j < l.length) : (l.take (j + 1)).any q = ((l.take j).any q || q l[j]) := by
 rw [List.take_succ_eq_append_getElem h, List.any_append]
 simp
def ClAt (w0 : World) (g : Nat) (q : Tm → Bool) (t : Tm) : Prop := ∀ (c0 c1 c2 c3 : Value) (W : World), Below w0.heap.size w0 W → IsTm w0.heap.size w0 c0 c1 c2 c3 t →
 Calls Tryz.prog 95 #[.agg #[c0, c1, c2, c3], .pointer (some ⟨g, 0, none⟩)] W fun e W' => e = .returned (.bool (q t)) ∧ Below W.heap.size W W'
theorem indexAll (w0 : World) (g : Nat) (q : Tm → Bool) (us : List Tm) (ih : ∀ t ∈ us, ClAt w0 g q t) (a : Option Addr) (cap : Nat) (W : World) (hB : Below w0.heap.size w0 W) (hl : us.length ≤ maxLen)
   (hargs : us ≠ [] → ∃ b off, a = some ⟨b, off, none⟩ ∧ b < w0.heap.size ∧ IsTms w0.heap.size w0 b off us) :
   Calls Tryz.prog 139 #[.slice a us.length cap, .func (.func 95) #[] #[.pointer (some ⟨g, 0, none⟩)]] W fun e W' => (∃ i : Int, e = .returned (.int .i64 i) ∧ decide (0 ≤ i) = us.any q) ∧ Below W.heap.size W W' := by
 unfold maxLen at hl
 have HA := Hi hargs; clear hargs
 have IH := Hi ih; clear ih
 have HW := Hi hB; clear hB
 go_enter Tryz.func139, Tryz.ntmps139
 go_wp2_with fail
 go_loopw [8] (fun i wr => ∃ j : Nat, j ≤ us.length ∧ i = .int .i64 j ∧ (us.take j).any q = false ∧ Below W.heap.size W wr) (fun i _ => us.length - (intOf i).toNat)
 case atStart => exact ⟨0, by omega, by go_num, rfl, Below.refl _ _⟩
 case round =>
   obtain ⟨j, hj, rfl, hf, hBr⟩ := hrel
   have HF := Hi hf; clear hf
   by_cases hlt : j < us.length
   · obtain ⟨b, off, rfl, hb, hI⟩ := HA.out (by intro e; rw [e] at hlt; simp at hlt)
     obtain ⟨c0, c1, c2, c3, e0, e1, e2, e3, hc⟩ := hI.at j hlt
     have hwr := HW.out.trans (hBr.mono HW.out.size)
     have g0 := (hwr.cell (p := ⟨b, off + j * 4, none⟩) hb).trans e0
     have g1 := (hwr.cell (p := ⟨b, off + j * 4 + 1, none⟩) hb).trans e1
     have g2 := (hwr.cell (p := ⟨b, off + j * 4 + 2, none⟩) hb).trans e2
     have g3 := (hwr.cell (p := ⟨b, off + j * 4 + 3, none⟩) hb).trans e3
     have HS := Hi (IH.out us[j] (List.getElem_mem hlt) c0 c1 c2 c3 wr hwr hc)
     have HT := Hi (any_take (q := q) hlt)
     have HM := Hi (fun h : q us[j] = true => show us.any q = true from List.any_eq_true.2 ⟨_, List.getElem_mem hlt, h⟩)
     have HB := Hi hBr
     clear e0 e1 e2 e3 hc hBr hwr
     have i1 : (0 : Int) ≤ (j : Int) := by omega
     have i2 : (j : Int) < (us.length : Int) := by omega
     cases hs : q us[j]
     all_goals
       rw [hs] at HS
       have HH := Hi hs
       clear hs
       go_wp2_with (go_at_call 95; refine HS.out.mono ?_; clear HS; rintro e W2 ⟨rfl, hB2⟩)
       first
         | (go_ret
            exact ⟨⟨_, rfl, by rw [HM.out HH.out]; simp⟩, HB.out.trans (hB2.mono HB.out.size)⟩)
         | (go_roundw
            case rel => exact ⟨j + 1, by omega, by go_num, by rw [HT.out, HF.out, HH.out]; rfl, HB.out.trans (hB2.mono HB.out.size)⟩
            case measure => simp [intOf]; omega)
   · rw [List.take_of_length_le (by omega)] at HF
     have HB := Hi hBr
     clear hBr
     go_wp2
     go_ret
     exact ⟨⟨_, rfl, by rw [HF.out]; rfl⟩, HB.out⟩
theorem containsAll (w0 : World) (g : Nat) (q : Tm → Bool) (us : List Tm) (ih : ∀ t ∈ us, ClAt w0 g q t) (a : Option Addr) (cap : Nat) (W : World) (hB : Below w0.heap.size w0 W) (hl : us.length ≤ maxLen)
   (hargs : us ≠ [] → ∃ b off, a = some ⟨b, off, none⟩ ∧ b < w0.heap.size ∧ IsTms w0.heap.size w0 b off us) :
   Calls Tryz.prog 94 #[.slice a us.length cap, .func (.func 95) #[] #[.pointer (some ⟨g, 0, none⟩)]] W fun e W' => e = .returned (.bool (us.any q)) ∧ Below W.heap.size W W' := by
 have HC := Hi (indexAll w0 g q us ih a cap W hB hl hargs); clear hargs ih hl hB
 go_enter Tryz.func94, Tryz.ntmps94
 go_wp2_with (go_at_call 139; refine HC.out.mono ?_; clear HC; rintro e w' ⟨⟨i, rfl, hi⟩, hb⟩)
 have HI := Hi hi; clear hi
 go_ret
 exact ⟨by rw [← HI.out]; rfl, hb⟩
theorem cloValid (w0 : World) (g : Nat) (hg : w0.cell? ⟨g, 0, none⟩ = some (.func (.func 7) #[] #[])) (t : Tm) (hdep : t.depth < 4611686018427387900) : ClAt w0 g (fun t => !t.validB) t := by
 intro c0 c1 c2 c3 W hB hT
 obtain ⟨k, n, s, us⟩ := t
 have hT0 := hT
 simp only [IsTm] at hT
 obtain ⟨rfl, _, rfl, _, rfl, _, a, cap, rfl, _, _⟩ := hT
 obtain ⟨VV, hVV⟩ : ∃ VV, (Tm.mk k n s us).validB = VV := ⟨_, rfl⟩
 obtain ⟨l, hl⟩ : ∃ l, us.length = l := ⟨_, rfl⟩
 have hb1 : Below W.heap.size W (W.alloc (.cells #[.int .u8 k, .int .i64 n, .string s, .slice a us.length cap] 24)) := (Below.refl _ W).alloc (Nat.le_refl _) _
 have hb2 := hB.trans (hb1.mono hB.size)
 have HV := Hi (show Calls Tryz.prog 7 #[.agg #[.int .u8 k, .int .i64 n, .string s, .slice a us.length cap]] _ fun e w'' => e = .returned (.bool VV) ∧ Below _ _ w'' from hVV ▸ valid_any _ _ _ _ _ (W.alloc (.cells #[.int .u8 k, .int .i64 n, .string s, .slice a us.length cap] 24)) ((hT0.below hb2).mono hb2.size) hdep)
 have g1 := (hb2.cell (p := ⟨g, 0, none⟩) (block_lt hg)).trans hg
 have HB := Hi hb1
 rw [hl] at HV HB g1 ⊢
 clear hT0 hb1 hb2
 have HVV := Hi hVV
 clear hVV
 go_enter Tryz.func95, Tryz.ntmps95
 go_wp2_with (go_at_call 7; refine HV.out.mono ?_; rintro e W2 ⟨rfl, hb⟩)
 go_ret
 exact ⟨by show _ = Ending.returned (.bool (!(Tm.mk k n s us).validB)); rw [HVV.out]; rfl, HB.out.trans (hb.mono HB.out.size)⟩
theorem allValid (us : List Tm) (hdep : ∀ t ∈ us, t.depth < 4611686018427387900) (a : Option Addr) (cap : Nat) (w0 W : World) (hB : Below w0.heap.size w0 W) (hl : us.length ≤ maxLen) (hargs : us ≠ [] → ∃ b off, a = some ⟨b, off, none⟩ ∧ b < w0.heap.size ∧ IsTms w0.heap.size w0 b off us) :
   Calls Tryz.prog 64 #[.slice a us.length cap, .func (.func 7) #[] #[]] W fun e W' => e = .returned (.bool (us.all fun t => t.validB)) ∧ Below W.heap.size W W' := by
 obtain ⟨W0, hW0⟩ : ∃ W0, W.alloc (.cells #[.func (.func 7) #[] #[]] 29) = W0 := ⟨_, rfl⟩
 have hb0 : Below W.heap.size W W0 := by rw [← hW0]; exact (Below.refl _ W).alloc (Nat.le_refl _) _
 have hq : W0.cell? ⟨W.heap.size, 0, none⟩ = some (.func (.func 7) #[] #[]) := by rw [← hW0]; exact cells_at (World.alloc_heap_new _ _) 0 _ rfl
 have hb1 := hB.trans (hb0.mono hB.size)
 have HC := Hi (containsAll W0 W.heap.size (fun t => !t.validB) us (fun t ht => cloValid W0 W.heap.size hq t (hdep t ht)) a cap W0 bR hl (fun hne => by obtain ⟨b, off, h1, h2, h3⟩ := hargs hne; exact ⟨b, off, h1, Nat.lt_of_lt_of_le h2 hb1.size, (h3.below hb1 h2).mono hb1.size⟩))
 have HB := Hi hb0
 have HE := Hi (show (!us.any fun t => !t.validB) = us.all fun t => t.validB by rw [List.all_eq_not_any_not])
 obtain ⟨l, hl2⟩ : ∃ l, us.length = l := ⟨_, rfl⟩
 rw [hl2] at HC ⊢
 obtain ⟨AA, hAA⟩ : ∃ AA, (us.any fun t => !t.validB) = AA := ⟨_, rfl⟩
 rw [hAA] at HC HE
 obtain ⟨n0, hn0⟩ : ∃ n0, W.heap.size = n0 := ⟨_, rfl⟩
 clear hargs hdep hl hl2 hb0 hb1 hq hAA hB
 rw [hn0] at HC
 go_enter Tryz.func64, Tryz.ntmps64
 go_wp2_with (go_at_call 94; refine HC.out.mono ?_; rintro e W2 ⟨rfl, hb⟩)
 go_ret
 exact ⟨by rw [← HE.out]; rfl, hn0 ▸ HB.out.trans (hb.mono HB.out.size)⟩
theorem cloValue (w0 : World) (g : Nat) (hg : w0.cell? ⟨g, 0, none⟩ = some (.func (.func 28) #[] #[])) (t : Tm) (hdep : t.depth < 4611686018427387900) : ClAt w0 g (fun t => !t.valueB) t := by
 intro c0 c1 c2 c3 W hB hT
 obtain ⟨k, n, s, us⟩ := t
 have hT0 := hT
 simp only [IsTm] at hT
 obtain ⟨rfl, _, rfl, _, rfl, _, a, cap, rfl, _, _⟩ := hT
 obtain ⟨VV, hVV⟩ : ∃ VV, (Tm.mk k n s us).valueB = VV := ⟨_, rfl⟩
 obtain ⟨l, hl⟩ : ∃ l, us.length = l := ⟨_, rfl⟩
 have hb1 : Below W.heap.size W (W.alloc (.cells #[.int .u8 k, .int .i64 n, .string s, .slice a us.length cap] 24)) := (Below.refl _ W).alloc (Nat.le_refl _) _
 have hb2 := hB.trans (hb1.mono hB.size)
 have HV := Hi (show Calls Tryz.prog 28 #[.agg #[.int .u8 k, .int .i64 n, .string s, .slice a us.length cap]] _ fun e w'' => e = .returned (.bool VV) ∧ Below _ _ w'' from hVV ▸ value_any _ _ _ _ _ (W.alloc (.cells #[.int .u8 k, .int .i64 n, .string s, .slice a us.length cap] 24)) ((hT0.below hb2).mono hb2.size) hdep)
 have g1 := (hb2.cell (p := ⟨g, 0, none⟩) (block_lt hg)).trans hg
 have HB := Hi hb1
 rw [hl] at HV HB g1 ⊢
 clear hT0 hb1 hb2
 have HVV := Hi hVV
 clear hVV
 go_enter Tryz.func95, Tryz.ntmps95
 go_wp2_with (go_at_call 28; refine HV.out.mono ?_; rintro e W2 ⟨rfl, hb⟩)
 go_ret
 exact ⟨by show _ = Ending.returned (.bool (!(Tm.mk k n s us).valueB)); rw [HVV.out]; rfl, HB.out.trans (hb.mono HB.out.size)⟩
theorem allValue (us : List Tm) (hdep : ∀ t ∈ us, t.depth < 4611686018427387900) (a : Option Addr) (cap : Nat) (w0 W : World) (hB : Below w0.heap.size w0 W) (hl : us.length ≤ maxLen) (hargs : us ≠ [] → ∃ b off, a = some ⟨b, off, none⟩ ∧ b < w0.heap.size ∧ IsTms w0.heap.size w0 b off us) :
   Calls Tryz.prog 64 #[.slice a us.length cap, .func (.func 28) #[] #[]] W fun e W' => e = .returned (.bool (us.all fun t => t.valueB)) ∧ Below W.heap.size W W' := by
 obtain ⟨W0, hW0⟩ : ∃ W0, W.alloc (.cells #[.func (.func 28) #[] #[]] 29) = W0 := ⟨_, rfl⟩
 have hb0 : Below W.heap.size W W0 := by rw [← hW0]; exact (Below.refl _ W).alloc (Nat.le_refl _) _
 have hq : W0.cell? ⟨W.heap.size, 0, none⟩ = some (.func (.func 28) #[] #[]) := by rw [← hW0]; exact cells_at (World.alloc_heap_new _ _) 0 _ rfl
 have hb1 := hB.trans (hb0.mono hB.size)
 have HC := Hi (containsAll W0 W.heap.size (fun t => !t.valueB) us (fun t ht => cloValue W0 W.heap.size hq t (hdep t ht)) a cap W0 bR hl (fun hne => by obtain ⟨b, off, h1, h2, h3⟩ := hargs hne; exact ⟨b, off, h1, Nat.lt_of_lt_of_le h2 hb1.size, (h3.below hb1 h2).mono hb1.size⟩))
 have HB := Hi hb0
 have HE := Hi (show (!us.any fun t => !t.valueB) = us.all fun t => t.valueB by rw [List.all_eq_not_any_not])
 obtain ⟨l, hl2⟩ : ∃ l, us.length = l := ⟨_, rfl⟩
 rw [hl2] at HC ⊢
 obtain ⟨AA, hAA⟩ : ∃ AA, (us.any fun t => !t.valueB) = AA := ⟨_, rfl⟩
 rw [hAA] at HC HE
 obtain ⟨n0, hn0⟩ : ∃ n0, W.heap.size = n0 := ⟨_, rfl⟩
 clear hargs hdep hl hl2 hb0 hb1 hq hAA hB
 rw [hn0] at HC
 go_enter Tryz.func64, Tryz.ntmps64
 go_wp2_with (go_at_call 94; refine HC.out.mono ?_; rintro e W2 ⟨rfl, hb⟩)
 go_ret
 exact ⟨by rw [← HE.out]; rfl, hn0 ▸ HB.out.trans (hb.mono HB.out.size)⟩
end Go.Proofs.YtlmdhlckgbgfhaaGreatDoor
namespace Go.Proofs.YtlmdhlckgbgfhaaGreatDoor
open Go.RowKit Go.Shelf
attribute [local go_sem] Oper.semAt_some

def OpAt (w1 : World) (a : Option Addr) (j : Nat) (args : Value → Array Value) (f : Nat) (r : Bool) : Prop := ∃ gO k n s a2 l2 c2 k3 n3 s3 a3 l3 c3, a = some ⟨gO, 0, none⟩ ∧ gO < w1.heap.size ∧
 w1.cell? ⟨gO, j * 8, none⟩ = some (.int .u8 k) ∧ w1.cell? ⟨gO, j * 8 + 1, none⟩ = some (.int .i64 n) ∧ w1.cell? ⟨gO, j * 8 + 2, none⟩ = some (.string s) ∧ w1.cell? ⟨gO, j * 8 + 3, none⟩ = some (.slice a2 l2 c2) ∧
 w1.cell? ⟨gO, j * 8 + 4, none⟩ = some (.int .u8 k3) ∧ w1.cell? ⟨gO, j * 8 + 5, none⟩ = some (.int .i64 n3) ∧ w1.cell? ⟨gO, j * 8 + 6, none⟩ = some (.string s3) ∧ w1.cell? ⟨gO, j * 8 + 7, none⟩ = some (.slice a3 l3 c3) ∧
 ∀ W, Below w1.heap.size w1 W → Calls Tryz.prog f (args (.agg #[.int .u8 k, .int .i64 n, .string s, .slice a2 l2 c2, .int .u8 k3, .int .i64 n3, .string s3, .slice a3 l3 c3])) W fun e w' => e = .returned (.bool r) ∧ Below W.heap.size W w'
theorem indexOpen (g : Nat) (qs : List Bool) (a : Option Addr) (cap : Nat) (W : World) (hl : qs.length ≤ maxLen)
   (H : ∀ j (h : j < qs.length), OpAt W a j (fun x => #[x, .pointer (some ⟨g, 0, none⟩)]) 98 qs[j]) :
   Calls Tryz.prog 141 #[.slice a qs.length cap, .func (.func 98) #[] #[.pointer (some ⟨g, 0, none⟩)]] W fun e W' => (∃ i : Int, e = .returned (.int .i64 i) ∧ decide (0 ≤ i) = qs.any id) ∧ Below W.heap.size W W' := by
 unfold maxLen at hl
 have HH := Hi H; clear H
 go_enter Tryz.func141, Tryz.ntmps141
 go_wp2_with fail
 go_loopw [8] (fun i wr => ∃ j : Nat, j ≤ qs.length ∧ i = .int .i64 j ∧ (qs.take j).any id = false ∧ Below W.heap.size W wr) (fun i _ => qs.length - (intOf i).toNat)
 case atStart => exact ⟨0, by omega, by go_num, rfl, Below.refl _ _⟩
 case round =>
   obtain ⟨j, hj, rfl, hf, hBr⟩ := hrel
   have HF := Hi hf; clear hf
   by_cases hlt : j < qs.length
   · obtain ⟨gO, k, n, s, a2, l2, c2, k3, n3, s3, a3, l3, c3, rfl, hb, e0, e1, e2, e3, e4, e5, e6, e7, hc⟩ := HH.out j hlt
     have g0 := (hBr.cell (p := ⟨gO, j * 8, none⟩) hb).trans e0
     have g1 := (hBr.cell (p := ⟨gO, j * 8 + 1, none⟩) hb).trans e1
     have g2 := (hBr.cell (p := ⟨gO, j * 8 + 2, none⟩) hb).trans e2
     have g3 := (hBr.cell (p := ⟨gO, j * 8 + 3, none⟩) hb).trans e3
     have g4 := (hBr.cell (p := ⟨gO, j * 8 + 4, none⟩) hb).trans e4
     have g5 := (hBr.cell (p := ⟨gO, j * 8 + 5, none⟩) hb).trans e5
     have g6 := (hBr.cell (p := ⟨gO, j * 8 + 6, none⟩) hb).trans e6
     have g7 := (hBr.cell (p := ⟨gO, j * 8 + 7, none⟩) hb).trans e7
     have HS := Hi (hc wr hBr)
     have HT := Hi (any_take (q := id) hlt)
     have HM := Hi (fun h : qs[j] = true => show qs.any id = true from List.any_eq_true.2 ⟨_, List.getElem_mem hlt, h⟩)
     have HB := Hi hBr
     clear e0 e1 e2 e3 e4 e5 e6 e7 hc hBr
     have i1 : (0 : Int) ≤ (j : Int) := by omega
     have i2 : (j : Int) < (qs.length : Int) := by omega
     cases hs : qs[j]
     all_goals
       rw [hs] at HS
       have HH2 := Hi hs
       clear hs
       go_wp2_with (go_at_call 98; refine HS.out.mono ?_; clear HS; rintro e W2 ⟨rfl, hB2⟩)
       first
         | (go_ret
            exact ⟨⟨_, rfl, by rw [HM.out HH2.out]; simp⟩, HB.out.trans (hB2.mono HB.out.size)⟩)
         | (go_roundw
            case rel => exact ⟨j + 1, by omega, by go_num, by rw [HT.out, HF.out, HH2.out]; rfl, HB.out.trans (hB2.mono HB.out.size)⟩
            case measure => simp [intOf]; omega)
   · rw [List.take_of_length_le (by omega)] at HF
     have HB := Hi hBr
     clear hBr
     go_wp2
     go_ret
     exact ⟨⟨_, rfl, by rw [HF.out]; rfl⟩, HB.out⟩
theorem containsOpen (g : Nat) (qs : List Bool) (a : Option Addr) (cap : Nat) (W : World) (hl : qs.length ≤ maxLen)
   (H : ∀ j (h : j < qs.length), OpAt W a j (fun x => #[x, .pointer (some ⟨g, 0, none⟩)]) 98 qs[j]) :
   Calls Tryz.prog 97 #[.slice a qs.length cap, .func (.func 98) #[] #[.pointer (some ⟨g, 0, none⟩)]] W fun e W' => e = .returned (.bool (qs.any id)) ∧ Below W.heap.size W W' := by
 have HC := Hi (indexOpen g qs a cap W hl H); clear H hl
 go_enter Tryz.func97, Tryz.ntmps97
 go_wp2_with (go_at_call 141; refine HC.out.mono ?_; clear HC; rintro e w' ⟨⟨i, rfl, hi⟩, hb⟩)
 have HI := Hi hi; clear hi
 go_ret
 exact ⟨by rw [← HI.out]; rfl, hb⟩
theorem cloOpen {P g j : Nat} {w1 w2 : World} {a : Option Addr} {r : Bool} (hb12 : Below w1.heap.size w1 w2) (hg : w2.cell? ⟨g, 0, none⟩ = some (.func (.func 67) #[.pointer (some ⟨P, 0, none⟩)] #[]))
   (h : OpAt w1 a j (fun x => #[.pointer (some ⟨P, 0, none⟩), x]) 67 r) : OpAt w2 a j (fun x => #[x, .pointer (some ⟨g, 0, none⟩)]) 98 (!r) := by
 obtain ⟨gO, k, n, s, a2, l2, c2, k3, n3, s3, a3, l3, c3, rfl, hb, e0, e1, e2, e3, e4, e5, e6, e7, hc⟩ := h
 refine ⟨gO, k, n, s, a2, l2, c2, k3, n3, s3, a3, l3, c3, rfl, Nat.lt_of_lt_of_le hb hb12.size, (hb12.cell (p := ⟨gO, j * 8, none⟩) hb).trans e0, (hb12.cell (p := ⟨gO, j * 8 + 1, none⟩) hb).trans e1, (hb12.cell (p := ⟨gO, j * 8 + 2, none⟩) hb).trans e2, (hb12.cell (p := ⟨gO, j * 8 + 3, none⟩) hb).trans e3, (hb12.cell (p := ⟨gO, j * 8 + 4, none⟩) hb).trans e4, (hb12.cell (p := ⟨gO, j * 8 + 5, none⟩) hb).trans e5, (hb12.cell (p := ⟨gO, j * 8 + 6, none⟩) hb).trans e6, (hb12.cell (p := ⟨gO, j * 8 + 7, none⟩) hb).trans e7, fun W hW => ?_⟩
 have hb1 : Below W.heap.size W (W.alloc (.cells #[.int .u8 k, .int .i64 n, .string s, .slice a2 l2 c2, .int .u8 k3, .int .i64 n3, .string s3, .slice a3 l3 c3] 97)) := (Below.refl _ W).alloc (Nat.le_refl _) _
 have hb2 := hW.trans (hb1.mono hW.size)
 have HV := Hi (hc _ (hb12.trans (hb2.mono hb12.size)))
 have g1 := (hb2.cell (p := ⟨g, 0, none⟩) (block_lt hg)).trans hg
 have HB := Hi hb1
 clear hb1 hb2 e0 e1 e2 e3 e4 e5 e6 e7 hc hb
 go_enter Tryz.func98, Tryz.ntmps98
 go_wp2_with (go_at_call 67; refine HV.out.mono ?_; rintro e W2 ⟨rfl, hb⟩)
 go_ret
 exact ⟨rfl, HB.out.trans (hb.mono HB.out.size)⟩
theorem allOpen (P : Nat) (rs : List Bool) (a : Option Addr) (cap : Nat) (w1 : World) (hl : rs.length ≤ maxLen) (H : ∀ j (h : j < rs.length), OpAt w1 a j (fun x => #[.pointer (some ⟨P, 0, none⟩), x]) 67 rs[j]) :
   Calls Tryz.prog 66 #[.slice a rs.length cap, .func (.func 67) #[.pointer (some ⟨P, 0, none⟩)] #[]] w1 fun e W' => e = .returned (.bool (rs.all id)) ∧ Below w1.heap.size w1 W' := by
 obtain ⟨W0, hW0⟩ : ∃ W0, w1.alloc (.cells #[.func (.func 67) #[.pointer (some ⟨P, 0, none⟩)] #[]] 98) = W0 := ⟨_, rfl⟩
 have hb0 : Below w1.heap.size w1 W0 := by rw [← hW0]; exact (Below.refl _ w1).alloc (Nat.le_refl _) _
 have hq : W0.cell? ⟨w1.heap.size, 0, none⟩ = some (.func (.func 67) #[.pointer (some ⟨P, 0, none⟩)] #[]) := by rw [← hW0]; exact cells_at (World.alloc_heap_new _ _) 0 _ rfl
 have hc := containsOpen w1.heap.size (rs.map not) a cap W0 (by simpa using hl) (fun j h => by
   rw [List.getElem_map]
   exact cloOpen hb0 hq (H j (by simpa using h)))
 rw [List.length_map] at hc
 have HE := Hi (show (!(rs.map not).any id) = rs.all id by rw [List.any_map, List.all_eq_not_any_not]; rfl)
 obtain ⟨l, hl2⟩ : ∃ l, rs.length = l := ⟨_, rfl⟩
 rw [hl2] at hc ⊢
 obtain ⟨AA, hAA⟩ : ∃ AA, (rs.map not).any id = AA := ⟨_, rfl⟩
 rw [hAA] at hc HE
 have HB := Hi hb0
 obtain ⟨n0, hn0⟩ : ∃ n0, w1.heap.size = n0 := ⟨_, rfl⟩
 rw [hn0] at hc
 have HC := Hi hc
 clear H hl hl2 hb0 hq hAA hc
 go_enter Tryz.func66, Tryz.ntmps66
 go_wp2_with (go_at_call 97; refine HC.out.mono ?_; rintro e W2 ⟨rfl, hb⟩)
 go_ret
 exact ⟨by rw [← HE.out]; rfl, hn0 ▸ HB.out.trans (hb.mono HB.out.size)⟩
end Go.Proofs.YtlmdhlckgbgfhaaGreatDoor
namespace Go.Proofs.YtlmdhlckgbgfhaaGreatDoor
open Go.RowKit Go.Shelf
attribute [local go_sem] Oper.semAt_some

def HoldN (ok : Nat → Prop) (w : World) : List Value → Bd → Prop
 | xs, [] => xs = []
 | xs, x :: r => ∃ c0 c1 c2 c3 ys, xs = .string x.1 :: c0 :: c1 :: c2 :: c3 :: ys ∧ x.1.size ≤ maxLen ∧ IsTmIn ok w c0 c1 c2 c3 x.2 ∧ HoldN ok w ys r
theorem HoldN.keep {ok ok' : Nat → Prop} {w w' : World} (h : ∀ b, ok b → ok' b ∧ w'.heap[b]? = w.heap[b]?) : ∀ {b : Bd} {xs : List Value}, HoldN ok w xs b → HoldN ok' w' xs b
 | [], _, hx => hx
 | _ :: _, _, ⟨c0, c1, c2, c3, r, e, hs, ht, hr⟩ => ⟨c0, c1, c2, c3, r, e, hs, ht.keep h, HoldN.keep h hr⟩
theorem HoldN.len {ok : Nat → Prop} {w : World} : ∀ {b : Bd} {xs : List Value}, HoldN ok w xs b → xs.length = b.length * 5
 | [], _, hx => by rw [show _ = [] from hx]; rfl
 | _ :: _, _, ⟨c0, c1, c2, c3, r, e, _, _, hr⟩ => by rw [e]; simp [HoldN.len hr]; omega
theorem HoldN.append {ok : Nat → Prop} {w : World} : ∀ {b c : Bd} {xs ys : List Value}, HoldN ok w xs b → HoldN ok w ys c → HoldN ok w (xs ++ ys) (b ++ c)
 | [], _, _, _, hx, hy => by rw [show _ = [] from hx]; exact hy
 | _ :: _, _, _, _, ⟨c0, c1, c2, c3, r, e, hs, ht, hr⟩, hy => ⟨c0, c1, c2, c3, r ++ _, by rw [e]; rfl, hs, ht, HoldN.append hr hy⟩
theorem HoldN.one {ok : Nat → Prop} {w : World} {nm : ByteArray} {c0 c1 c2 c3 : Value} {t : Tm} (hs : nm.size ≤ maxLen) (h : IsTmIn ok w c0 c1 c2 c3 t) : HoldN ok w [.string nm, c0, c1, c2, c3] [(nm, t)] := ⟨c0, c1, c2, c3, [], rfl, hs, h, rfl⟩
theorem HoldN.bs {ok : Nat → Prop} {w : World} {g B : Nat} (hB : ∀ b, ok b → b < B) : ∀ {b : Bd} {xs : List Value} {off : Nat}, HoldN ok w xs b → (∀ j u, xs[j]? = some u → w.cell? ⟨g, off + j, none⟩ = some u) → IsBs B w g off b
 | [], _, _, _, _ => trivial
 | x :: r, _, off, ⟨c0, c1, c2, c3, ys, e, hs, ht, hr⟩, hc => by
   subst e
   simp only [IsBs]
   refine ⟨hs, hc 0 _ rfl, ⟨c0, c1, c2, c3, hc 1 _ rfl, hc 2 _ rfl, hc 3 _ rfl, hc 4 _ rfl, ht.isTm hB⟩, HoldN.bs hB hr fun j u hu => ?_⟩
   have := hc (j + 5) u hu
   rwa [show off + (j + 5) = off + 5 + j by omega] at this
def RowB (base : Nat) (w : World) (v : Value) (b : Bd) : Prop := ∃ xs, w.ownsRow base 40 5 v b.length xs ∧ HoldN (Far none base w v) w xs b
theorem RowB.nil (base : Nat) (w : World) : RowB base w (.slice none 0 0) [] := ⟨[], World.ownsRow_nil _ _ _ _, rfl⟩
theorem RowB.app {base : Nat} {w w' : World} {v v' : Value} {b c : Bd} {xs ys : List Value} (ho : HoldN (Far none base w v) w xs b) (hy : HoldN (Far none base w v) w ys c)
   (hown : w'.ownsRow base 40 5 v' (b.length + c.length) (xs ++ ys)) (hg : w.grownBy w' v.ownBlock) (hat : v'.ownBlock = v.ownBlock ∨ v'.ownBlock = some w.heap.size) : RowB base w' v' (b ++ c) := by
 have hk : ∀ q, Far none base w v q → Far none base w' v' q ∧ w'.heap[q]? = w.heap[q]? := fun q hf =>
   ⟨⟨hf.1, Nat.lt_of_lt_of_le hf.2.1 hg.size, by
     rcases hat with e | e <;> rw [e]
     · exact hf.2.2.1
     · intro e'; cases e'; exact absurd hf.2.1 (by omega), hf.2.2.2⟩, hg.block q hf.2.1 (fun e => hf.2.2.1 e.symm)⟩
 exact ⟨xs ++ ys, by rw [List.length_append]; exact hown, (ho.keep hk).append (hy.keep hk)⟩
theorem RowB.bdV {base : Nat} {w : World} {v : Value} {b : Bd} (h : RowB base w v b) : BdV w v b := by
 obtain ⟨xs, ho, hh⟩ := h
 have ho' := ho
 obtain ⟨_, ⟨rfl, hn⟩ | ⟨g, cap, cur, rfl, _, hg, hc, hm, _, _⟩⟩ := ho
 · exact ⟨none, 0, by rw [hn], by omega, Nat.zero_le _, fun hne => absurd (List.length_eq_zero_iff.1 hn) hne⟩
 · refine ⟨_, cap, rfl, hc, hm, fun _ => ⟨g, 0, rfl, (gL hg), hh.bs (fun q hq => hq.2.1) fun j u hu => ?_⟩⟩
   have := ho'.cells (g := g) rfl j u hu
   rwa [Addr.add_lit] at this
theorem RowB.grow {base : Nat} {w w' : World} {v : Value} {b : Bd} (h : RowB base w v b) (hb : Below w.heap.size w w') : RowB base w' v b := by
 obtain ⟨xs, ho, hh⟩ := h
 exact ⟨xs, own_grown ho hb, hh.keep fun q hq => ⟨⟨hq.1, Nat.lt_of_lt_of_le hq.2.1 hb.size, hq.2.2⟩, hb.block q hq.2.1⟩⟩
def FB (n1 : Nat) (V3 : Value) (nm : ByteArray) (PA : Value) (t : Tm) (N : Nat) : Facts := fun i v w => match i with
 | 0 => v = V3
 | 1 => v = .pointer (some ⟨n1, 0, none⟩)
 | 2 => v = .string nm
 | 3 => v = .pointer (some ⟨n1, 1, none⟩)
 | 4 => v = PA
 | 5 => ∃ k n s a l c, v = .agg #[.int .u8 k, .int .i64 n, .string s, .slice a l c] ∧ IsTmIn (fun q => N ≤ q ∧ q < w.heap.size) w (.int .u8 k) (.int .i64 n) (.string s) (.slice a l c) t
 | 6 => ∃ k n s a l c, v = .agg #[.string nm, .int .u8 k, .int .i64 n, .string s, .slice a l c] ∧ IsTmIn (fun q => N ≤ q ∧ q < w.heap.size) w (.int .u8 k) (.int .i64 n) (.string s) (.slice a l c) t
 | 7 => ∃ g k n s a l c, v = .slice (some ⟨g, 0, none⟩) 1 1 ∧ N ≤ g ∧ w.heap[g]? = some (.cells #[.string nm, .int .u8 k, .int .i64 n, .string s, .slice a l c] 40 (0, 0)) ∧ IsTmIn (fun q => N ≤ q ∧ q < w.heap.size) w (.int .u8 k) (.int .i64 n) (.string s) (.slice a l c) t
 | _ => True
theorem FB_grow {n1 : Nat} {V3 : Value} {nm : ByteArray} {PA : Value} {t : Tm} {N : Nat} (i : Nat) (v : Value) (w w' : World) (h : FB n1 V3 nm PA t N i v w) (hb : Below w.heap.size w w') : FB n1 V3 nm PA t N i v w' := by
 have blk : ∀ {g : Nat} {o : Obj}, w.heap[g]? = some o → w'.heap[g]? = some o := fun {g o} hg => (hb.block g (gL hg)).trans hg
 have kp : ∀ {c0 c1 c2 c3 : Value}, IsTmIn (fun q => N ≤ q ∧ q < w.heap.size) w c0 c1 c2 c3 t → IsTmIn (fun q => N ≤ q ∧ q < w'.heap.size) w' c0 c1 c2 c3 t := fun h => h.keep fun q hq => ⟨⟨hq.1, Nat.lt_of_lt_of_le hq.2 hb.size⟩, hb.block q hq.2⟩
 match i, h with
 | 0, h => exact h
 | 1, h => exact h
 | 2, h => exact h
 | 3, h => exact h
 | 4, h => exact h
 | 5, ⟨k, n, s, a, l, c, h1, h2⟩ => exact ⟨k, n, s, a, l, c, h1, kp h2⟩
 | 6, ⟨k, n, s, a, l, c, h1, h2⟩ => exact ⟨k, n, s, a, l, c, h1, kp h2⟩
 | 7, ⟨g, k, n, s, a, l, c, h1, h2, h3, h4⟩ => exact ⟨g, k, n, s, a, l, c, h1, h2, blk h3, kp h4⟩
 | _ + 8, _ => trivial
theorem binding_any (b : Bd) (hlen : b.length ≤ 100000) (hcb : ∀ x ∈ b, x.2.count ≤ 1000000) (v : Value) (w : World) (hv : BdV w v b) :
   Calls Tryz.prog 68 #[v] w fun e w' => ∃ v', e = .returned v' ∧ RowB w.heap.size w' v' b ∧ Below w.heap.size w w' := by
 obtain ⟨a, cap, rfl, hl, hm, hr⟩ := hv
 have HR := Hi hr
 have HCB := Hi hcb
 clear hr hcb
 go_enter Tryz.func68, Tryz.ntmps68
 go_wp2_with fail
 go_loopw [3, 8] (fun v i wr => ∃ j : Nat, j ≤ b.length ∧ i = .int .i64 j ∧ RowB w.heap.size wr v (b.take j) ∧ Below w.heap.size w wr) (fun _ i _ => b.length - (intOf i).toNat)
 case atStart => exact ⟨0, Nat.zero_le _, rfl, RowB.nil _ _, Below.refl _ _⟩
 case round =>
   obtain ⟨j, hj, rfl, hV, hBl⟩ := hrel
   have HBL := Hi hBl
   have i1 : (0 : Int) ≤ (j : Int) := by omega
   by_cases hlt : j < b.length
   · have i2 : (j : Int) < (b.length : Int) := by omega
     obtain ⟨g, off, rfl, hg, hI⟩ := HR.out (by intro e; rw [e] at hlt; simp at hlt)
     obtain ⟨hs1, y0, c0, c1, c2, c3, y1, y2, y3, y4, hT⟩ := hI.at j hlt
     have htk : b.take (j + 1) = b.take j ++ [b[j]] := by rw [List.take_succ_eq_append_getElem hlt]
     have hcu := HCB.out b[j] (List.getElem_mem hlt)
     obtain ⟨pq, hpq⟩ : ∃ pq, b[j] = pq := ⟨_, rfl⟩
     rw [hpq] at hs1 y0 hT htk hcu
     obtain ⟨nm, tq⟩ := pq
     obtain ⟨k2, n2, s2, us2⟩ := tq
     simp only at hs1 y0 hT hcu
     have hT0 := hT
     simp only [IsTm] at hT0
     obtain ⟨rfl, _, rfl, _, rfl, _, a2, c2, rfl, _, _⟩ := hT0
     have HC0 := Hi (fun (W : World) (hW : Below wr.heap.size wr W) => mclone_any _ _ _ _ _ W ((hT.below (hBl.trans (hW.mono hBl.size))).mono (Nat.le_trans hBl.size hW.size)) hcu)
     obtain ⟨l2, hl2⟩ : ∃ l2, us2.length = l2 := ⟨_, rfl⟩
     rw [hl2] at y4 HC0
     have z0 := (HBL.out.cell (p := ⟨g, off + j * 5, none⟩) hg).trans y0
     have z1 := (HBL.out.cell (p := ⟨g, off + j * 5 + 1, none⟩) hg).trans y1
     have z2 := (HBL.out.cell (p := ⟨g, off + j * 5 + 2, none⟩) hg).trans y2
     have z3 := (HBL.out.cell (p := ⟨g, off + j * 5 + 3, none⟩) hg).trans y3
     have z4 := (HBL.out.cell (p := ⟨g, off + j * 5 + 4, none⟩) hg).trans y4
     obtain ⟨xs, hO, hH⟩ := hV
     have HO := Hi hO
     have HH := Hi hH
     have HTK := Hi htk
     have HNM := Hi hs1
     clear hs1 y0 y1 y2 y3 y4 hT hpq htk hcu hO hH hI hBl
     go_wp2_with fail
     obtain ⟨W1, hW1⟩ : ∃ W1, wr.alloc (.cells #[.string nm, .int .u8 k2, .int .i64 n2, .string s2, .slice a2 l2 c2] 40) = W1 := ⟨_, rfl⟩
     obtain ⟨n1, hn1⟩ : ∃ n1, wr.heap.size = n1 := ⟨_, rfl⟩
     have HQ := Hi (show W1.heap[n1]? = some (.cells #[.string nm, .int .u8 k2, .int .i64 n2, .string s2, .slice a2 l2 c2] 40 (0, 0)) by rw [← hW1, ← hn1]; exact World.alloc_heap_new _ _)
     have HB1 := Hi (show Below wr.heap.size wr W1 by rw [← hW1]; exact bR.alloc (Nat.le_refl _) _)
     have HC := Hi (fun (W : World) (hW : Below W1.heap.size W1 W) => HC0.out W (HB1.out.trans (hW.mono HB1.out.size)))
     rw [hW1, hn1]
     clear hW1 hn1 z0 z1 z2 z3 z4 HC0
     refine wp_region_grow_tail (by kernel_rfl) 8 (FB n1 u3 nm (.agg #[.int .u8 k2, .int .i64 n2, .string s2, .slice a2 l2 c2]) (.mk k2 n2 s2 us2) W1.heap.size) (fun i v w w' h hb => FB_grow i v w w' h hb) (by kernel_rfl) (by kernel_rfl) (steps_to ?_) ?_
     · simp only [List.take_succ_cons, List.take_zero]
       refine ⟨?_, ?_, ?_, ?_, ?_, ?_, ?_, ?_, trivial⟩
       · intro a wx hb hd hs ho hp
         refine ⟨rfl, ?_⟩
         have h3 : a.tmps.getD 3 undef = u3 := (ho 3 (by kernel_rfl)).trans rfl
         unfold Oper.wp
         go_simp
         exact Stepped.at (v := u3) (by first | rfl | simp) hd bR rfl
       · intro a wx hb hd hs ho hp
         refine ⟨rfl, ?_⟩
         have h5 : a.tmps.getD 5 undef = .pointer (some ⟨n1, 0, none⟩) := (ho 5 (by kernel_rfl)).trans rfl
         unfold Oper.wp
         go_simp
         exact Stepped.at (v := .pointer (some ⟨n1, 0, none⟩)) (by first | rfl | simp) hd bR rfl
       · intro a wx hb hd hs ho hp
         refine ⟨rfl, ?_⟩
         have h13 : a.tmps.getD 13 undef = .pointer (some ⟨n1, 0, none⟩) := facts_at hp 1 13 (by kernel_rfl)
         have hx := (hb.block n1 (gL HQ.out)).trans HQ.out
         have x0 := cells_at hx 0 _ rfl
         unfold Oper.wp
         go_simp
         exact Stepped.at (v := .string nm) (by first | rfl | simp) hd bR rfl
       · intro a wx hb hd hs ho hp
         refine ⟨rfl, ?_⟩
         have h5 : a.tmps.getD 5 undef = .pointer (some ⟨n1, 0, none⟩) := (ho 5 (by kernel_rfl)).trans rfl
         unfold Oper.wp
         go_simp
         exact Stepped.at (v := .pointer (some ⟨n1, 1, none⟩)) (by first | rfl | simp) hd bR rfl
       · intro a wx hb hd hs ho hp
         refine ⟨rfl, ?_⟩
         have h15 : a.tmps.getD 15 undef = .pointer (some ⟨n1, 1, none⟩) := facts_at hp 3 15 (by kernel_rfl)
         have hx := (hb.block n1 (gL HQ.out)).trans HQ.out
         have x0 := cells_at hx 0 _ rfl
         have x1 := cells_at hx 1 _ rfl
         have x2 := cells_at hx 2 _ rfl
         have x3 := cells_at hx 3 _ rfl
         have x4 := cells_at hx 4 _ rfl
         unfold Oper.wp
         go_simp
         exact Stepped.at (v := .agg #[.int .u8 k2, .int .i64 n2, .string s2, .slice a2 l2 c2]) (by first | rfl | simp) hd bR rfl
       · intro a wx hb hd hs ho hp
         refine ⟨rfl, ?_⟩
         have h16 : a.tmps.getD 16 undef = .agg #[.int .u8 k2, .int .i64 n2, .string s2, .slice a2 l2 c2] := facts_at hp 4 16 (by kernel_rfl)
         unfold Oper.wp
         go_simp
         refine (HC.out _ hb).mono ?_
         rintro e2 w2 ⟨y0, y1, y2, y3, rfl, hv2, hb2⟩
         have hv3 := hv2
         simp only [IsTmIn] at hv3
         obtain ⟨rfl, _, rfl, _, rfl, _, a3, c3, rfl, _, _⟩ := hv3
         exact Stepped.at rfl hd hb2 ⟨_, _, _, _, _, _, rfl, hv2.keep fun q hq => ⟨⟨Nat.le_trans hb.size hq.1, hq.2⟩, rfl⟩⟩
       · intro a wx hb hd hs ho hp
         refine ⟨rfl, ?_⟩
         have h14 : a.tmps.getD 14 undef = .string nm := facts_at hp 2 14 (by kernel_rfl)
         obtain ⟨k4, n4, s4, a4, l4, c4, h17, ht17⟩ : FB n1 u3 nm (.agg #[.int .u8 k2, .int .i64 n2, .string s2, .slice a2 l2 c2]) (.mk k2 n2 s2 us2) W1.heap.size 5 (a.tmps.getD 17 undef) wx := facts_at hp 5 17 (by kernel_rfl)
         have s14 := qslot_of (hs.trans (show _ = 23 from rfl)) (by decide) h14
         have s17 := qslot_of (hs.trans (show _ = 23 from rfl)) (by decide) h17
         unfold Oper.wp
         go_simp
         exact Stepped.at (v := .agg #[.string nm, .int .u8 k4, .int .i64 n4, .string s4, .slice a4 l4 c4]) (by first | rfl | simp) hd bR ⟨_, _, _, _, _, _, rfl, ht17⟩
       · intro a wx hb hd hs ho hp
         refine ⟨rfl, ?_⟩
         obtain ⟨k4, n4, s4, a4, l4, c4, h18, ht18⟩ : FB n1 u3 nm (.agg #[.int .u8 k2, .int .i64 n2, .string s2, .slice a2 l2 c2]) (.mk k2 n2 s2 us2) W1.heap.size 6 (a.tmps.getD 18 undef) wx := facts_at hp 6 18 (by kernel_rfl)
         have s18 := qslot_of (hs.trans (show _ = 23 from rfl)) (by decide) h18
         have hal := (Below.refl _ wx).alloc (Nat.le_refl _) (.cells #[.string nm, .int .u8 k4, .int .i64 n4, .string s4, .slice a4 l4 c4] 40)
         unfold Oper.wp
         go_simp
         exact Stepped.at rfl hd hal ⟨_, _, _, _, _, _, _, rfl, hb.size, World.alloc_heap_new _ _, ht18.keep fun q hq => ⟨⟨hq.1, Nat.lt_of_lt_of_le hq.2 hal.size⟩, hal.block q hq.2⟩⟩
     · intro a W3 hbz hd hs2 ho2 hf
       have k12 : a.tmps.getD 12 undef = u3 := facts_to hf 0 12 (by decide) (by kernel_rfl)
       obtain ⟨g19, k4, n4, s4, a4, l4, c4, k19, hg19, hq19, ht19⟩ : FB n1 u3 nm (.agg #[.int .u8 k2, .int .i64 n2, .string s2, .slice a2 l2 c2]) (.mk k2 n2 s2 us2) W1.heap.size 7 (a.tmps.getD 19 undef) W3 := facts_to hf 7 19 (by decide) (by kernel_rfl)
       obtain ⟨u13, f13⟩ := exV (a.tmps.getD 13 undef)
       obtain ⟨u14, f14⟩ := exV (a.tmps.getD 14 undef)
       obtain ⟨u15, f15⟩ := exV (a.tmps.getD 15 undef)
       obtain ⟨u16, f16⟩ := exV (a.tmps.getD 16 undef)
       obtain ⟨u17, f17⟩ := exV (a.tmps.getD 17 undef)
       obtain ⟨u18, f18⟩ := exV (a.tmps.getD 18 undef)
       have hE := slots_mergeP [false, false, false, false, false, false, false, false, false, false, false, false, true, true, true, true, true, true, true, true, false, false, false] 23 hs2 rfl (by kernel_rfl) ho2
       simp only [mergeFrom, Nat.zero_add, Nat.reduceAdd, k12, k19, f13, f14, f15, f16, f17, f18] at hE
       obtain ⟨TT, DD⟩ := a
       simp only at hE hd
       subst hd hE
       clear k12 k19 f13 f14 f15 f16 f17 f18 hf hs2 ho2
       simp only [List.drop_succ_cons, List.drop_zero]
       have HZ := Hi hbz
       have HQ19 := Hi hq19
       have HT19 := Hi ht19
       have HG19 := Hi hg19
       clear hbz hq19 ht19 hg19
       obtain ⟨i0, hi, hz0, hz1, hz2⟩ := info_parts info_bind
       go_wp2_with (at_builtin; refine wpList_append_own_at _ rfl _ _ 26 rfl w.heap.size 40 i0 _ 5 72 Tryz.underlying26 hi hz0 hz1 hz2 rfl (by decide) u3 (b.take j).length xs rfl ?c0 _ 1 1 [.string nm, .int .u8 k4, .int .i64 n4, .string s4, .slice a4 l4 c4] rfl rfl ?c1 ?c2 ?c3 ?c4 ?c5 ?_)
       case c2 => simp [Value.oneCell']
       case c3 => unfold maxLen; rw [List.length_take]; omega
       case c4 => rw [List.length_take]; omega
       case c5 => exact Nat.le_trans HBL.out.size (Nat.le_trans HB1.out.size HZ.out.size)
       case c1 =>
         intro jj u' hu'
         rcases jj with _ | _ | _ | _ | _ | jj
         · cases hu'; exact cells_at HQ19.out 0 _ rfl
         · cases hu'; exact cells_at HQ19.out 1 _ rfl
         · cases hu'; exact cells_at HQ19.out 2 _ rfl
         · cases hu'; exact cells_at HQ19.out 3 _ rfl
         · cases hu'; exact cells_at HQ19.out 4 _ rfl
         · simp at hu'
       case c0 => exact own_grown (own_grown HO.out HB1.out) HZ.out
       intro v' w' hown' hgrow _ hat
       have hBel := HB1.out.trans (HZ.out.mono HB1.out.size)
       have zA := hBel.size
       have zL := HBL.out.size
       have zB := HB1.out.size
       have hV' : RowB w.heap.size w' v' (b.take j ++ [(nm, .mk k2 n2 s2 us2)]) := RowB.app (HH.out.keep fun q hf => ⟨⟨hf.1, Nat.lt_of_lt_of_le hf.2.1 zA, hf.2.2⟩, hBel.block q hf.2.1⟩)
         (HoldN.one HNM.out (HT19.out.keep fun q hf => ⟨⟨by omega, hf.2, fun e => by have := (HO.out.lt q e).2; omega, by simp⟩, rfl⟩)) (by rw [List.length_take, Nat.min_eq_left (by omega)]; exact hown') hgrow hat
       have hBw : Below w.heap.size w w' := (HBL.out.trans (hBel.mono zL)).grown hgrow (by omega) (fun k e => (HO.out.lt k e).1)
       have HF := Hi (show ∃ j' : Nat, j' ≤ b.length ∧ (Value.int .i64 ((j + 1 : Nat) : Int)) = .int .i64 j' ∧ RowB w.heap.size w' v' (b.take j') ∧ Below w.heap.size w w' from ⟨j + 1, by omega, rfl, by rw [HTK.out]; exact hV', hBw⟩)
       clear hown' hgrow hat hBel hV' hBw HH HO
       go_wp2
       go_roundw
       case rel => exact HF.out
       case measure => simp [intOf]; omega
   · have hje : j = b.length := by omega
     have i2 : ¬ (j : Int) < (b.length : Int) := by omega
     have HV := Hi (show RowB w.heap.size wr u3 b by rw [hje, List.take_of_length_le (Nat.le_refl _)] at hV; exact hV)
     clear hV hje hBl
     go_wp2
     go_ret
     exact ⟨_, rfl, HV.out, HBL.out⟩
end Go.Proofs.YtlmdhlckgbgfhaaGreatDoor
namespace Go.Proofs.YtlmdhlckgbgfhaaGreatDoor
open Go.RowKit Go.Shelf

theorem holdB_of {w : World} {g : Nat} : ∀ {b : Bd} {off : Nat}, IsBs w.heap.size w g off b → ∃ xs, HoldB w xs b ∧ ∀ j u, xs[j]? = some u → w.cell? ⟨g, off + j, none⟩ = some u
 | [], _, _ => ⟨[], rfl, fun j u h => by simp at h⟩
 | x :: r, off, h => by
   simp only [IsBs] at h
   obtain ⟨hs, h0, ⟨c0, c1, c2, c3, h1, h2, h3, h4, ht⟩, hr⟩ := h
   obtain ⟨xs, hx, hc⟩ := holdB_of hr
   refine ⟨.string x.1 :: c0 :: c1 :: c2 :: c3 :: xs, ⟨c0, c1, c2, c3, xs, rfl, hs, ht, hx⟩, fun j u hu => ?_⟩
   match j, hu with
   | 0, hu => cases hu; exact h0
   | 1, hu => cases hu; exact h1
   | 2, hu => cases hu; exact h2
   | 3, hu => cases hu; exact h3
   | 4, hu => cases hu; exact h4
   | j + 5, hu =>
     have := hc j u (by simpa using hu)
     rwa [show off + 5 + j = off + (j + 5) by omega] at this
theorem PS.lent {w W : World} {base : Nat} {a : Option Addr} {b : Bd} (hl : b.length ≤ 100000) (h : BdV w (.slice a b.length b.length) b) : PS w base W (.slice a b.length b.length) b := by
 obtain ⟨a2, cap, e, _, _, hr⟩ := h
 simp only [Value.slice.injEq] at e
 obtain ⟨rfl, _, _⟩ := e
 by_cases hne : b = []
 · subst hne
   exact ⟨hl, [], rfl, Or.inl ⟨a, rfl, fun h => absurd rfl h⟩⟩
 · obtain ⟨g, off, rfl, hg, hi⟩ := hr hne
   obtain ⟨xs, hx, hc⟩ := holdB_of hi
   exact ⟨hl, xs, hx, Or.inl ⟨_, rfl, fun _ => ⟨g, off, rfl, hg, hc⟩⟩⟩
theorem bind_vals {b b' : Bd} {n : ByteArray} {v : Tm} {D : Nat} (hb : ∀ x ∈ b, x.2.count ≤ D) (hv : v.count ≤ D) (h : bindB b n v = some b') : ∀ x ∈ b', x.2.count ≤ D := by
 unfold bindB at h
 split at h
 · split at h
   · cases h; exact hb
   · cases h
 · cases h
   intro x hx
   unfold insB at hx
   rcases List.mem_append.1 hx with h | h
   · exact hb x (List.mem_of_mem_take h)
   · rcases List.mem_cons.1 h with rfl | h
     · exact hv
     · exact hb x (List.mem_of_mem_drop h)
mutual
theorem fitT_vals {D : Nat} : ∀ (p v : Tm) {b b' : Bd} {o o' : Ops}, (∀ x ∈ b, x.2.count ≤ D) → (∀ x ∈ o, x.1.count ≤ D) → p.count ≤ D → v.count ≤ D → fitT p v (b, o) = some (b', o') → (∀ x ∈ b', x.2.count ≤ D) ∧ ∀ x ∈ o', x.1.count ≤ D
 | .mk k n s us, v, b, b', o, o', hb, ho, hp, hv, h => by
   simp only [fitT] at h
   split at h
   · rw [Option.map_eq_some_iff] at h
     obtain ⟨c, hc, e⟩ := h
     cases e
     exact ⟨bind_vals hb hv hc, ho⟩
   · split at h
     · cases h
       refine ⟨hb, fun x hx => ?_⟩
       rcases List.mem_append.1 hx with h | h
       · exact ho x h
       · obtain rfl := List.mem_singleton.1 h
         exact hp
     · split at h
       · obtain ⟨k3, n3, s3, us3⟩ := v
         simp only [Tm.count] at hp hv
         exact fitL_vals us us3 hb ho (by omega) (by omega) h
       · cases h
theorem fitL_vals {D : Nat} : ∀ (ps vs : List Tm) {b b' : Bd} {o o' : Ops}, (∀ x ∈ b, x.2.count ≤ D) → (∀ x ∈ o, x.1.count ≤ D) → Tm.countL ps ≤ D → Tm.countL vs ≤ D → fitL ps vs (b, o) = some (b', o') → (∀ x ∈ b', x.2.count ≤ D) ∧ ∀ x ∈ o', x.1.count ≤ D
 | [], [], b, b', o, o', hb, ho, _, _, h => by
   simp only [fitL, Option.some.injEq, Prod.mk.injEq] at h
   obtain ⟨rfl, rfl⟩ := h
   exact ⟨hb, ho⟩
 | p :: ps, v :: vs, b, b', o, o', hb, ho, hp, hv, h => by
   simp only [fitL, Option.bind_eq_some_iff] at h
   obtain ⟨⟨b1, o1⟩, h1, h2⟩ := h
   simp only [Tm.countL] at hp hv
   have q1 := fitT_vals p v hb ho (by omega) (by omega) h1
   exact fitL_vals ps vs q1.1 q1.2 (by omega) (by omega) h2
 | [], _ :: _, _, _, _, _, _, _, _, _, h => by simp [fitL] at h
 | _ :: _, [], _, _, _, _, _, _, _, _, h => by simp [fitL] at h
end
theorem HoldO.at {w0 : World} : ∀ {op : Ops} {xs : List Value}, HoldO w0 xs op → ∀ j (h : j < op.length), ∃ c0 c1 c2 c3 e0 e1 e2 e3, xs[j * 8]? = some c0 ∧ xs[j * 8 + 1]? = some c1 ∧ xs[j * 8 + 2]? = some c2 ∧ xs[j * 8 + 3]? = some c3 ∧ xs[j * 8 + 4]? = some e0 ∧ xs[j * 8 + 5]? = some e1 ∧ xs[j * 8 + 6]? = some e2 ∧ xs[j * 8 + 7]? = some e3 ∧
   IsTm w0.heap.size w0 c0 c1 c2 c3 op[j].1 ∧ IsTm w0.heap.size w0 e0 e1 e2 e3 op[j].2
 | x :: r, _, ⟨c0, c1, c2, c3, e0, e1, e2, e3, zs, e, h1, h2, h⟩, j, hj => by
   subst e
   cases j with
   | zero => exact ⟨c0, c1, c2, c3, e0, e1, e2, e3, rfl, rfl, rfl, rfl, rfl, rfl, rfl, rfl, h1, h2⟩
   | succ j =>
     have := h.at j (by simpa using hj)
     rw [show (j + 1) * 8 = j * 8 + 8 by omega]
     simpa using this
def matchL (ps vs : List Tm) (b : Bd) : Option Bd := if validBd b && (ps.all Tm.validB && vs.all Tm.valueB) then (fitL ps vs (b, [])).bind fun st => if st.2.all (fun x => expandsB st.1 x.1 x.2) then some st.1 else none else none
theorem open_at {w0 w : World} {base P : Nat} {V O : Value} {c : Bd} {op : Ops} (_ : w0.heap.size ≤ base) (hB : Below w0.heap.size w0 w) (hP : w.heap[P]? = some (.cells #[V, O] 94 (0, 0))) (hPS : PS w0 base w V c) (hOS : OS w0 base w O op)
   (hs : Srt c) (hlen : c.length ≤ 1000000) (hcb : ∀ x ∈ c, x.2.count ≤ 1000000) (hco : ∀ x ∈ op, x.1.count ≤ 1000000) :
   ∃ a cap, O = .slice a op.length cap ∧ op.length ≤ maxLen ∧ ∀ j (h : j < (op.map fun x => expandsB c x.1 x.2).length), OpAt w a j (fun x => #[.pointer (some ⟨P, 0, none⟩), x]) 67 (op.map fun x => expandsB c x.1 x.2)[j] := by
 obtain ⟨ys, hy, ho⟩ := hOS
 have hbv := hPS.bdV hB
 rcases ho.2 with ⟨rfl, h0⟩ | ⟨g, cap, cur, rfl, q1, q2, q3, q4, _, _⟩
 · refine ⟨none, 0, by rw [h0], by rw [h0]; exact Nat.zero_le _, fun j h => ?_⟩
   rw [List.length_map, h0] at h
   omega
 · refine ⟨some ⟨g, 0, none⟩, cap, rfl, Nat.le_trans q3 q4, fun j h => ?_⟩
   have hj : j < op.length := by simpa using h
   obtain ⟨c0, c1, c2, c3, e0, e1, e2, e3, y0, y1, y2, y3, y4, y5, y6, y7, hp, hv⟩ := hy.at j hj
   have hc : ∀ i u, ys[i]? = some u → w.cell? ⟨g, i, none⟩ = some u := fun i u hu => by
     have := ho.cells (g := g) rfl i u hu
     rwa [Addr.add_lit, Nat.zero_add] at this
   rw [List.getElem_map]
   have hcj := hco _ (List.getElem_mem hj)
   obtain ⟨x, hx⟩ : ∃ x, op[j] = x := ⟨_, rfl⟩
   rw [hx] at hp hv hcj ⊢
   obtain ⟨p, v⟩ := x
   simp only at hp hv hcj ⊢
   have hp0 := hp
   have hv0 := hv
   obtain ⟨k2, n2, s2, us2⟩ := p
   obtain ⟨k3, n3, s3, us3⟩ := v
   simp only [IsTm] at hp hv
   obtain ⟨rfl, _, rfl, _, rfl, _, a2, c2, rfl, _, _⟩ := hp
   obtain ⟨rfl, _, rfl, _, rfl, _, a3, c3, rfl, _, _⟩ := hv
   refine ⟨g, k2, n2, s2, a2, us2.length, c2, k3, n3, s3, a3, us3.length, c3, rfl, (gL q2), hc _ _ y0, hc _ _ y1, hc _ _ y2, hc _ _ y3, hc _ _ y4, hc _ _ y5, hc _ _ y6, hc _ _ y7, fun W hW => ?_⟩
   exact expands_any P V _ c _ _ _ _ _ _ _ _ _ _ W ((hW.block P (gL hP)).trans hP) (hbv.grow hW) hs hlen hcb ((hp0.below (hB.trans (hW.mono hB.size))).mono (Nat.le_trans hB.size hW.size)) ((hv0.below (hB.trans (hW.mono hB.size))).mono (Nat.le_trans hB.size hW.size)) hcj
end Go.Proofs.YtlmdhlckgbgfhaaGreatDoor
namespace Go.Proofs.YtlmdhlckgbgfhaaGreatDoor
open Go.RowKit Go.Shelf

theorem nreq_three {n : Int} {s : ByteArray} {m : Nat} (h : reqB 3 n s m = true) : variableB s = true := by
 unfold reqB at h
 simp at h
 exact h.2
mutual
def Tm.okB : Tm → Bool
 | .mk k n s us => reqB k n s us.length && Tm.okBL us
def Tm.okBL : List Tm → Bool
 | [] => true
 | t :: ts => t.okB && Tm.okBL ts
end
mutual
def Tm.flatB : Tm → Bool
 | .mk k _ _ us => (decide (k = 1) || decide (k = 2) || decide (k = 4)) && Tm.flatBL us
def Tm.flatBL : List Tm → Bool
 | [] => true
 | t :: ts => t.flatB && Tm.flatBL ts
end
mutual
theorem nodes_ok : ∀ (t : Tm) (p : Nat), (t.nodes p).all nodeOkB = true → t.okB = true
 | .mk k n s us, p, h => by
   simp only [Tm.nodes, List.all_cons, Bool.and_eq_true] at h
   have h1 := h.1
   unfold nodeOkB at h1
   rw [Bool.and_eq_true] at h1
   simp only [Tm.okB, Bool.and_eq_true]
   exact ⟨h1.2, nodesL_ok us (p + 1) h.2⟩
theorem nodesL_ok : ∀ (ts : List Tm) (p : Nat), (Tm.nodesL p ts).all nodeOkB = true → Tm.okBL ts = true
 | [], _, _ => rfl
 | t :: ts, p, h => by
   simp only [Tm.nodesL, List.all_append, Bool.and_eq_true] at h
   simp only [Tm.okBL, Bool.and_eq_true]
   exact ⟨nodes_ok t p h.1, nodesL_ok ts p h.2⟩
end
mutual
theorem nodes_flat : ∀ (t : Tm) (p : Nat), (t.nodes p).all plainB = t.flatB
 | .mk k n s us, p => by
   simp only [Tm.nodes, List.all_cons, Tm.flatB]
   rw [nodesL_flat us (p + 1)]
   rfl
theorem nodesL_flat : ∀ (ts : List Tm) (p : Nat), (Tm.nodesL p ts).all plainB = Tm.flatBL ts
 | [], _ => rfl
 | t :: ts, p => by
   simp only [Tm.nodesL, List.all_append, Tm.flatBL]
   rw [nodes_flat t p, nodesL_flat ts p]
end
theorem valid_ok {t : Tm} (h : t.validB = true) : t.okB = true := nodes_ok t 1 h
theorem value_parts {t : Tm} (h : t.valueB = true) : t.okB = true ∧ t.flatB = true := by
 unfold Tm.valueB at h
 rw [Bool.and_eq_true] at h
 exact ⟨valid_ok h.1, (nodes_flat t 1).symm.trans h.2⟩
mutual
theorem flat_good : ∀ t : Tm, t.flatB = true → t.Good
 | .mk k n s us, h => by
   simp only [Tm.flatB, Bool.and_eq_true, Bool.or_eq_true, decide_eq_true_eq] at h
   simp only [Tm.Good]
   exact ⟨by omega, flat_goodL us h.2⟩
theorem flat_goodL : ∀ ts : List Tm, Tm.flatBL ts = true → Tm.GoodL ts
 | [], _ => by simp only [Tm.GoodL]
 | t :: ts, h => by
   simp only [Tm.flatBL, Bool.and_eq_true] at h
   simp only [Tm.GoodL]
   exact ⟨flat_good t h.1, flat_goodL ts h.2⟩
end
theorem value_good {t : Tm} (h : t.valueB = true) : t.Good := flat_good t (value_parts h).2
theorem look_srt {b : Bd} (hs : Srt b) {x : ByteArray × Tm} (h : x ∈ b) : lookB b x.1 = some x.2 := by
 obtain ⟨i, hi, rfl⟩ := List.mem_iff_getElem.1 h
 exact look_at hs i hi rfl
theorem srt_ext : ∀ {b c : Bd}, Srt b → Srt c → (∀ n, lookB b n = lookB c n) → b = c
 | [], [], _, _, _ => rfl
 | [], y :: q, _, hc, h => by
   have := h y.1
   rw [look_srt hc (x := y) (by simp)] at this
   cases this
 | x :: r, [], hb, _, h => by
   have := h x.1
   rw [look_srt hb (x := x) (by simp)] at this
   cases this
 | x :: r, y :: q, hb, hc, h => by
   have hb0 := hb
   have hc0 := hc
   unfold Srt at hb hc
   rw [List.pairwise_cons] at hb hc
   have e : x.1 = y.1 := by
     refine Classical.byContradiction fun hne => ?_
     cases hl : lessS x.1 y.1 with
     | true =>
       have h1 := h x.1
       rw [look_srt hb0 (x := x) (by simp)] at h1
       have h2 := look_mem h1.symm
       rcases List.mem_cons.1 h2 with h3 | h3
       · exact hne (by rw [← h3])
       · have := lessS_trans hl (hc.1 _ h3)
         rw [lessS_irrefl] at this; cases this
     | false =>
       have hl := lessS_total hl hne
       have h1 := h y.1
       rw [look_srt hc0 (x := y) (by simp)] at h1
       have h2 := look_mem h1
       rcases List.mem_cons.1 h2 with h3 | h3
       · exact hne (by rw [← h3])
       · have := lessS_trans hl (hb.1 _ h3)
         rw [lessS_irrefl] at this; cases this
   have e2 : x = y := by
     have h1 := h x.1
     rw [look_srt hb0 (x := x) (by simp), e, look_srt hc0 (x := y) (by simp)] at h1
     cases x; cases y
     simp only at e h1
     cases h1; cases e; rfl
   subst e2
   have ht : ∀ n, lookB r n = lookB q n := by
     intro n
     by_cases hn : x.1 = n
     · have h1 : lookB r n = none := look_none.2 fun z hz e => by
         have := hb.1 z hz
         rw [e, hn, lessS_irrefl] at this; cases this
       have h2 : lookB q n = none := look_none.2 fun z hz e => by
         have := hc.1 z hz
         rw [e, hn, lessS_irrefl] at this; cases this
       rw [h1, h2]
     · have := h n
       unfold lookB at this ⊢
       rwa [List.find?_cons_of_neg (by simpa using hn), List.find?_cons_of_neg (by simpa using hn)] at this
   rw [srt_ext hb.2 hc.2 ht]
theorem ins_look {b : Bd} {n : ByteArray} {v : Tm} (hs : Srt b) (hn : lookB b n = none) (m : ByteArray) : lookB (insB b n v) m = if m = n then some v else lookB b m := by
 have h1 := insB_srt (v := v) hs hn
 by_cases e : m = n
 · subst e
   rw [if_pos rfl]
   exact look_srt h1 (x := (m, v)) (insB_mem.2 (Or.inl rfl))
 · rw [if_neg e]
   cases hl : lookB b m with
   | some u => exact look_srt h1 (x := (m, u)) (insB_mem.2 (Or.inr (look_mem hl)))
   | none =>
     refine look_none.2 fun x hx hxm => ?_
     rcases insB_mem.1 hx with rfl | hx
     · exact e hxm.symm
     · exact look_none.1 hl x hx hxm

def bindAll : Bd → Bd → Option Bd
 | b, [] => some b
 | b, x :: r => (bindB b x.1 x.2).bind fun b' => bindAll b' r
theorem bindAll_append : ∀ (x b y : Bd), bindAll b (x ++ y) = (bindAll b x).bind fun b' => bindAll b' y
 | [], _, _ => rfl
 | a :: x, b, y => by
   simp only [List.cons_append, bindAll]
   cases bindB b a.1 a.2 with
   | none => rfl
   | some b' => exact bindAll_append x b' y
structure Holds (b xs c : Bd) : Prop where
 srt : Srt c
 old : ∀ n u, lookB b n = some u → lookB c n = some u
 new : ∀ x ∈ xs, lookB c x.1 = some x.2
 only : ∀ n, lookB c n ≠ none → lookB b n ≠ none ∨ ∃ x ∈ xs, x.1 = n
theorem bindB_some {b b' : Bd} {n : ByteArray} {v : Tm} (hs : Srt b) (hg : ∀ x ∈ b, x.2.Good) (hv : v.Good) : bindB b n v = some b' ↔ (lookB b n = some v ∧ b' = b) ∨ (lookB b n = none ∧ b' = insB b n v) := by
 unfold bindB
 cases hl : lookB b n with
 | some u =>
   have hu := hg _ (look_mem hl)
   by_cases e : u = v
   · subst e
     have h0 : (Tm.cmp u u == 0) = true := by rw [beq_iff_eq]; exact (cmp_zero u u hu hv).2 rfl
     show (if (Tm.cmp u u == 0) = true then some b else none) = some b' ↔ _
     rw [if_pos h0]
     constructor
     · intro h; cases h; exact Or.inl ⟨rfl, rfl⟩
     · rintro (⟨_, rfl⟩ | ⟨h, _⟩)
       · rfl
       · cases h
   · have h0 : ¬ (Tm.cmp u v == 0) = true := by rw [beq_iff_eq]; exact fun h => e ((cmp_zero u v hu hv).1 h)
     show (if (Tm.cmp u v == 0) = true then some b else none) = some b' ↔ _
     rw [if_neg h0]
     constructor
     · intro h; cases h
     · rintro (⟨h, _⟩ | ⟨h, _⟩)
       · cases h; exact absurd rfl e
       · cases h
 | none =>
   show some (insB b n v) = some b' ↔ _
   constructor
   · intro h; cases h; exact Or.inr ⟨rfl, rfl⟩
   · rintro (⟨h, _⟩ | ⟨_, rfl⟩)
     · cases h
     · rfl
theorem bindAll_iff : ∀ {xs b c : Bd}, Srt b → (∀ x ∈ b, x.2.Good) → (∀ x ∈ xs, x.2.Good) → (bindAll b xs = some c ↔ Holds b xs c)
 | [], b, c, hs, _, _ => by
   simp only [bindAll, Option.some.injEq]
   constructor
   · rintro rfl
     exact ⟨hs, fun _ _ h => h, fun x h => (List.not_mem_nil h).elim, fun _ h => Or.inl h⟩
   · intro h
     refine srt_ext hs h.srt fun n => ?_
     cases hl : lookB b n with
     | some u => rw [h.old n u hl]
     | none =>
       cases hc : lookB c n with
       | none => rfl
       | some u =>
         rcases h.only n (by rw [hc]; simp) with h1 | ⟨x, hx, _⟩
         · exact absurd hl h1
         · cases hx
 | x :: r, b, c, hs, hg, hx => by
   have hxg := hx x (by simp)
   have hrg : ∀ y ∈ r, y.2.Good := fun y hy => hx y (List.mem_cons_of_mem _ hy)
   simp only [bindAll, Option.bind_eq_some_iff]
   constructor
   · rintro ⟨b', hb', hr⟩
     rcases (bindB_some hs hg hxg).1 hb' with ⟨hl, rfl⟩ | ⟨hl, rfl⟩
     · have H := (bindAll_iff hs hg hrg).1 hr
       refine ⟨H.srt, H.old, fun y hy => ?_, fun n hn => ?_⟩
       · rcases List.mem_cons.1 hy with rfl | hy
         · exact H.old _ _ hl
         · exact H.new y hy
       · rcases H.only n hn with h | ⟨y, hy, e⟩
         · exact Or.inl h
         · exact Or.inr ⟨y, List.mem_cons_of_mem _ hy, e⟩
     · have hs' := insB_srt (v := x.2) hs hl
       have hg' : ∀ y ∈ insB b x.1 x.2, y.2.Good := fun y hy => by
         rcases insB_mem.1 hy with rfl | hy
         · exact hxg
         · exact hg y hy
       have H := (bindAll_iff hs' hg' hrg).1 hr
       have hlk := ins_look (v := x.2) hs hl
       refine ⟨H.srt, fun n u hn => H.old n u ?_, fun y hy => ?_, fun n hn => ?_⟩
       · rw [hlk, if_neg (fun e => by rw [e, hl] at hn; cases hn)]; exact hn
       · rcases List.mem_cons.1 hy with rfl | hy
         · exact H.old _ _ (by rw [hlk, if_pos rfl])
         · exact H.new y hy
       · rcases H.only n hn with h | ⟨y, hy, e⟩
         · rw [hlk] at h
           by_cases e : n = x.1
           · exact Or.inr ⟨x, by simp, e.symm⟩
           · rw [if_neg e] at h; exact Or.inl h
         · exact Or.inr ⟨y, List.mem_cons_of_mem _ hy, e⟩
   · intro H
     have hc := H.new x (by simp)
     cases hl : lookB b x.1 with
     | some u =>
       have e := H.old _ _ hl
       rw [hc] at e
       cases e
       refine ⟨b, (bindB_some hs hg hxg).2 (Or.inl ⟨hl, rfl⟩), (bindAll_iff hs hg hrg).2 ⟨H.srt, H.old, fun y hy => H.new y (List.mem_cons_of_mem _ hy), fun n hn => ?_⟩⟩
       rcases H.only n hn with h | ⟨y, hy, e⟩
       · exact Or.inl h
       · rcases List.mem_cons.1 hy with rfl | hy
         · exact Or.inl (by rw [← e, hl]; simp)
         · exact Or.inr ⟨y, hy, e⟩
     | none =>
       have hs' := insB_srt (v := x.2) hs hl
       have hlk := ins_look (v := x.2) hs hl
       have hg' : ∀ y ∈ insB b x.1 x.2, y.2.Good := fun y hy => by
         rcases insB_mem.1 hy with rfl | hy
         · exact hxg
         · exact hg y hy
       refine ⟨insB b x.1 x.2, (bindB_some hs hg hxg).2 (Or.inr ⟨hl, rfl⟩), (bindAll_iff hs' hg' hrg).2 ⟨H.srt, fun n u hn => ?_, fun y hy => H.new y (List.mem_cons_of_mem _ hy), fun n hn => ?_⟩⟩
       · rw [hlk] at hn
         by_cases e : n = x.1
         · rw [if_pos e] at hn; cases hn; rw [e]; exact hc
         · rw [if_neg e] at hn; exact H.old n u hn
       · rcases H.only n hn with h | ⟨y, hy, e⟩
         · refine Or.inl ?_
           rw [hlk]
           split
           · simp
           · exact h
         · rcases List.mem_cons.1 hy with rfl | hy
           · exact Or.inl (by rw [hlk, if_pos e.symm]; simp)
           · exact Or.inr ⟨y, hy, e⟩

mutual
def decT : Tm → Tm → Option (Bd × Ops)
 | .mk k n s us, v => if k = 3 then some ([(s, v)], [])
   else if k = 5 ∨ k = 6 then some ([], [(.mk k n s us, v)])
   else if k = v.kind ∧ n = v.num ∧ s = v.name then decL us v.args else none
def decL : List Tm → List Tm → Option (Bd × Ops)
 | [], [] => some ([], [])
 | p :: ps, v :: vs => (decT p v).bind fun x => (decL ps vs).map fun y => (x.1 ++ y.1, x.2 ++ y.2)
 | [], _ :: _ => none
 | _ :: _, [] => none
end
mutual
theorem fitT_dec : ∀ (p v : Tm) (b : Bd) (o : Ops), fitT p v (b, o) = (decT p v).bind fun x => (bindAll b x.1).map fun b' => (b', o ++ x.2)
 | .mk k n s us, v, b, o => by
   simp only [fitT, decT]
   split
   · simp only [Option.bind_some, bindAll, List.append_nil]
     cases bindB b s v <;> rfl
   · split
     · rfl
     · split
       · exact fitL_dec us v.args b o
       · rfl
theorem fitL_dec : ∀ (ps vs : List Tm) (b : Bd) (o : Ops), fitL ps vs (b, o) = (decL ps vs).bind fun x => (bindAll b x.1).map fun b' => (b', o ++ x.2)
 | [], [], b, o => by simp only [fitL, decL, Option.bind_some, bindAll, Option.map_some, List.append_nil]
 | p :: ps, v :: vs, b, o => by
   simp only [fitL, decL, fitT_dec p v b o]
   cases decT p v with
   | none => rfl
   | some x =>
     simp only [Option.bind_some]
     cases hb : bindAll b x.1 with
     | none =>
       simp only [Option.map_none, Option.bind_none]
       cases decL ps vs with
       | none => rfl
       | some y => simp only [Option.map_some, Option.bind_some, bindAll_append, hb, Option.bind_none, Option.map_none]
     | some b' =>
       simp only [Option.map_some, Option.bind_some, fitL_dec ps vs b' (o ++ x.2)]
       cases decL ps vs with
       | none => rfl
       | some y => simp only [Option.map_some, Option.bind_some, bindAll_append, hb, List.append_assoc]
 | [], _ :: _, _, _ => rfl
 | _ :: _, [], _, _ => rfl
end
theorem decL_append : ∀ (ps vs qs us : List Tm), ps.length = vs.length → decL (ps ++ qs) (vs ++ us) = (decL ps vs).bind fun x => (decL qs us).map fun y => (x.1 ++ y.1, x.2 ++ y.2)
 | [], [], qs, us, _ => by
   simp only [List.nil_append, decL, Option.bind_some]
   cases decL qs us <;> rfl
 | p :: ps, v :: vs, qs, us, h => by
   simp only [List.cons_append, decL, decL_append ps vs qs us (by simpa using h)]
   cases decT p v with
   | none => rfl
   | some x =>
     simp only [Option.bind_some]
     cases decL ps vs with
     | none => rfl
     | some y =>
       simp only [Option.bind_some, Option.map_some]
       cases decL qs us with
       | none => rfl
       | some z => simp only [Option.map_some, List.append_assoc]
 | [], _ :: _, _, _, h => by simp at h
 | _ :: _, [], _, _, h => by simp at h
mutual
theorem decT_vals : ∀ (p v : Tm) {xs : Bd} {os : Ops}, decT p v = some (xs, os) → v.flatB = true → v.okB = true → p.okB = true → ∀ x ∈ xs, x.2.flatB = true ∧ x.2.okB = true ∧ variableB x.1 = true
 | .mk k n s us, v, xs, os, h, hf, ho, hp => by
   simp only [decT] at h
   simp only [Tm.okB, Bool.and_eq_true] at hp
   split at h
   · rename_i h3
     cases h
     intro x hx
     obtain rfl := List.mem_singleton.1 hx
     exact ⟨hf, ho, nreq_three (h3 ▸ hp.1)⟩
   · split at h
     · cases h; intro x hx; cases hx
     · split at h
       · obtain ⟨k3, n3, s3, us3⟩ := v
         simp only [Tm.flatB, Tm.okB, Bool.and_eq_true] at hf ho
         exact decL_vals us us3 h hf.2 ho.2 hp.2
       · cases h
theorem decL_vals : ∀ (ps vs : List Tm) {xs : Bd} {os : Ops}, decL ps vs = some (xs, os) → Tm.flatBL vs = true → Tm.okBL vs = true → Tm.okBL ps = true → ∀ x ∈ xs, x.2.flatB = true ∧ x.2.okB = true ∧ variableB x.1 = true
 | [], [], xs, os, h, _, _, _ => by
   simp only [decL, Option.some.injEq, Prod.mk.injEq] at h
   obtain ⟨rfl, _⟩ := h
   intro x hx; cases hx
 | p :: ps, v :: vs, xs, os, h, hf, ho, hp => by
   simp only [decL, Option.bind_eq_some_iff, Option.map_eq_some_iff] at h
   obtain ⟨⟨x1, o1⟩, h1, ⟨x2, o2⟩, h2, e⟩ := h
   cases e
   simp only [Tm.flatBL, Tm.okBL, Bool.and_eq_true] at hf ho hp
   intro x hx
   rcases List.mem_append.1 hx with hx | hx
   · exact decT_vals p v h1 hf.1 ho.1 hp.1 x hx
   · exact decL_vals ps vs h2 hf.2 ho.2 hp.2 x hx
 | [], _ :: _, _, _, h, _, _, _ => by simp [decL] at h
 | _ :: _, [], _, _, h, _, _, _ => by simp [decL] at h
end
theorem match_iff {ps vs : List Tm} {b c : Bd} : matchL ps vs b = some c ↔ validBd b = true ∧ ps.all Tm.validB = true ∧ vs.all Tm.valueB = true ∧ ∃ xs os, decL ps vs = some (xs, os) ∧ bindAll b xs = some c ∧ os.all (fun x => expandsB c x.1 x.2) = true := by
 unfold matchL
 by_cases hv : (validBd b && (ps.all Tm.validB && vs.all Tm.valueB)) = true
 · rw [if_pos hv]
   simp only [Bool.and_eq_true] at hv
   rw [fitL_dec]
   cases hd : decL ps vs with
   | none => simp
   | some x =>
     simp only [Option.bind_some]
     cases hb : bindAll b x.1 with
     | none =>
       simp only [Option.map_none, Option.bind_none]
       constructor
       · intro h; cases h
       · rintro ⟨_, _, _, xs, os, e, h, _⟩
         cases e
         rw [hb] at h; cases h
     | some b' =>
       simp only [Option.map_some, Option.bind_some, List.nil_append]
       constructor
       · intro h
         split at h
         · rename_i ha
           cases h
           exact ⟨hv.1, hv.2.1, hv.2.2, x.1, x.2, rfl, hb, ha⟩
         · cases h
       · rintro ⟨_, _, _, xs, os, e, h, ha⟩
         cases e
         rw [hb] at h
         cases h
         rw [if_pos ha]
 · rw [if_neg hv]
   constructor
   · intro h; cases h
   · rintro ⟨h1, h2, h3, _⟩
     exact absurd (by rw [h1, h2, h3]; rfl) hv
theorem okBL_all : ∀ {ts : List Tm}, ts.all Tm.validB = true → Tm.okBL ts = true
 | [], _ => rfl
 | t :: ts, h => by
   simp only [List.all_cons, Bool.and_eq_true] at h
   simp only [Tm.okBL, Bool.and_eq_true]
   exact ⟨valid_ok h.1, okBL_all h.2⟩
theorem valuesL : ∀ {ts : List Tm}, ts.all Tm.valueB = true → Tm.flatBL ts = true ∧ Tm.okBL ts = true
 | [], _ => ⟨rfl, rfl⟩
 | t :: ts, h => by
   simp only [List.all_cons, Bool.and_eq_true] at h
   have h1 := value_parts h.1
   have h2 := valuesL h.2
   simp only [Tm.flatBL, Tm.okBL, Bool.and_eq_true]
   exact ⟨⟨h1.2, h2.1⟩, h1.1, h2.2⟩
theorem match_holds {ps vs : List Tm} {b c : Bd} (h : matchL ps vs b = some c) : validBd b = true ∧ ps.all Tm.validB = true ∧ vs.all Tm.valueB = true ∧ ∃ xs os, decL ps vs = some (xs, os) ∧ Holds b xs c ∧ os.all (fun x => expandsB c x.1 x.2) = true ∧ (∀ x ∈ xs, x.2.flatB = true ∧ x.2.okB = true ∧ variableB x.1 = true) := by
 obtain ⟨h1, h2, h3, xs, os, hd, hb, ha⟩ := match_iff.1 h
 have hv := valuesL h3
 have hx := decL_vals ps vs hd hv.1 hv.2 (okBL_all h2)
 exact ⟨h1, h2, h3, xs, os, hd, (bindAll_iff (valid_spec h1).1 (fun x hx => value_good ((valid_spec h1).2 x hx).2) (fun x hx' => flat_good _ (hx x hx').1)).1 hb, ha, hx⟩
theorem match_of {ps vs : List Tm} {b c : Bd} {xs : Bd} {os : Ops} (h1 : validBd b = true) (h2 : ps.all Tm.validB = true) (h3 : vs.all Tm.valueB = true) (hd : decL ps vs = some (xs, os)) (hc : Holds b xs c) (ha : os.all (fun x => expandsB c x.1 x.2) = true) : matchL ps vs b = some c := by
 have hv := valuesL h3
 have hx := decL_vals ps vs hd hv.1 hv.2 (okBL_all h2)
 exact match_iff.2 ⟨h1, h2, h3, xs, os, hd, (bindAll_iff (valid_spec h1).1 (fun x hx => value_good ((valid_spec h1).2 x hx).2) (fun x hx' => flat_good _ (hx x hx').1)).2 hc, ha⟩
theorem match_turned {ps qs vs us : List Tm} {b : Bd} (hl : ps.length = vs.length) (hl' : qs.length = us.length) : matchL (qs ++ ps) (us ++ vs) b = matchL (ps ++ qs) (vs ++ us) b := by
 have one : ∀ {ps qs vs us : List Tm} {c : Bd}, ps.length = vs.length → qs.length = us.length → matchL (ps ++ qs) (vs ++ us) b = some c → matchL (qs ++ ps) (us ++ vs) b = some c := by
   intro ps qs vs us c hl hl' h
   obtain ⟨h1, h2, h3, xs, os, hd, hc, ha, _⟩ := match_holds h
   rw [decL_append ps vs qs us hl] at hd
   cases hd1 : decL ps vs with
   | none => rw [hd1] at hd; cases hd
   | some x =>
   cases hd2 : decL qs us with
   | none => rw [hd1, hd2] at hd; cases hd
   | some y =>
     rw [hd1, hd2] at hd
     cases hd
     refine match_of h1 (by rw [List.all_append, Bool.and_comm, ← List.all_append]; exact h2) (by rw [List.all_append, Bool.and_comm, ← List.all_append]; exact h3) (xs := y.1 ++ x.1) (os := y.2 ++ x.2) (by rw [decL_append qs us ps vs hl', hd1, hd2]; rfl) ⟨hc.srt, hc.old, fun z hz => hc.new z ?_, fun n hn => ?_⟩ (by rw [List.all_append, Bool.and_comm, ← List.all_append]; exact ha)
     · rw [List.mem_append] at hz ⊢; exact hz.symm
     · rcases hc.only n hn with h | ⟨z, hz, e⟩
       · exact Or.inl h
       · exact Or.inr ⟨z, by rw [List.mem_append] at hz ⊢; exact hz.symm, e⟩
 cases h : matchL (ps ++ qs) (vs ++ us) b with
 | some c => exact one hl hl' h
 | none =>
   cases h' : matchL (qs ++ ps) (us ++ vs) b with
   | none => rfl
   | some c => rw [one hl' hl h'] at h; cases h
end Go.Proofs.YtlmdhlckgbgfhaaGreatDoor
namespace Go.Proofs.YtlmdhlckgbgfhaaGreatDoor
open Go.RowKit Go.Shelf
attribute [local go_sem] Oper.semAt_some

def MatchPost (r : Option Bd) (w : World) (e : Ending) (w' : World) : Prop := Below w.heap.size w w' ∧ match r with
 | some c => ∃ v', e = .returned (.tuple #[v', .bool true]) ∧ BdV w' v' c
 | none => e = .returned (.tuple #[.slice none 0 0, .bool false])
theorem matchAll_any (ps vs : List Tm) (b : Bd) (a a' : Option Addr) (capa capb : Nat) (v : Value) (w : World) (hv : BdV w v b) (hlb : b.length ≤ 40000) (hcb : ∀ x ∈ b, x.2.count ≤ 1000000) (hsb : ∀ x ∈ b, x.1.size ≤ maxLen)
   (ha : ps ≠ [] → ∃ g off, a = some ⟨g, off, none⟩ ∧ g < w.heap.size ∧ IsTms w.heap.size w g off ps) (ha' : vs ≠ [] → ∃ g off, a' = some ⟨g, off, none⟩ ∧ g < w.heap.size ∧ IsTms w.heap.size w g off vs)
   (hcp : Tm.countL ps ≤ 40000) (hcv : Tm.countL vs ≤ 1000000) :
   Calls Tryz.prog 36 #[.slice a ps.length capa, .slice a' vs.length capb, v] w (MatchPost (matchL ps vs b) w) := by
 have hlp := len_countL ps
 have hlv := len_countL vs
 have hmp : ps.length ≤ maxLen := by unfold maxLen; omega
 have hmv : vs.length ≤ maxLen := by unfold maxLen; omega
 have HV := Hi (validPairs_any b v w hv (fun x hx => by have := hcb x hx; have := Tm.depth_le_count x.2; omega) hsb)
 have HA1 := Hi (fun (W : World) (hW : Below w.heap.size w W) => allValid ps (fun t ht => by have := count_mem ht; have := Tm.depth_le_count t; omega) a capa w W hW hmp ha)
 have HA2 := Hi (fun (W : World) (hW : Below w.heap.size w W) => allValue vs (fun t ht => by have := count_mem ht; have := Tm.depth_le_count t; omega) a' capb w W hW hmv ha')
 have HARG := Hi (And.intro ha ha')
 have HCB := Hi hcb
 obtain ⟨va, vn, vc, rfl⟩ : ∃ va vn vc, v = .slice va vn vc := by obtain ⟨a, c, e, _⟩ := hv; exact ⟨_, _, _, e⟩
 have HML := Hi (show matchL ps vs b = if validBd b && (ps.all Tm.validB && vs.all Tm.valueB) then (fitL ps vs (b, [])).bind fun st => if st.2.all (fun x => expandsB st.1 x.1 x.2) then some st.1 else none else none from rfl)
 have HSB := Hi (fun h : validBd b = true => (valid_spec h).1)
 have HPR := Hi (fun h : validBd b = true => show prs b = b by unfold prs; rw [if_pos h])
 obtain ⟨lp, hlp2⟩ : ∃ lp, ps.length = lp := ⟨_, rfl⟩
 obtain ⟨lv, hlv2⟩ : ∃ lv, vs.length = lv := ⟨_, rfl⟩
 have HFA0 := Hi (fun (base P : Nat) (W : World) (h1 : w.heap.size ≤ base) (h2 : base ≤ P) (h3 : Below w.heap.size w W) (h4 : base ≤ W.heap.size) (h5 : Srt b) (h6 : SI w base W P b []) => fitAll_of h1 h2 ps (fun p _ => fit_any h1 h2 p) vs b [] a a' capa capb W h3 h4 ha ha' hmp hmv h5 h6 (by omega) (by simp only [List.length_nil]; omega))
 rw [hlp2] at HA1 HFA0 ⊢
 rw [hlv2] at HA2 HFA0 ⊢
 have HLL := Hi (And.intro hlp2 hlv2)
 clear hv hcb hsb ha ha' hlp2 hlv2
 have HTR := Hi (fun (h : validBd b = true) => (rfl : b = b))
 go_enter Tryz.func36, Tryz.ntmps36
 cases hvb : validBd b with
 | false =>
   rw [hvb] at HV HML
   clear hvb
   go_wp2_with (go_at_call 29; refine HV.out.mono ?_; rintro e w1 ⟨aV, rfl, _, hb1⟩)
   go_ret2
   exact ⟨hb1, by rw [HML.out]; rfl⟩
 | true =>
 rw [hvb] at HV HML
 have hsrt := HSB.out hvb
 rw [HPR.out hvb] at HV
 have HSRT := Hi hsrt
 clear hvb hsrt HSB HPR HTR
 cases hA1 : ps.all Tm.validB with
 | false =>
   have HA1' := Hi (fun (W : World) (hW : Below w.heap.size w W) => show Calls _ _ _ _ _ from hA1 ▸ HA1.out W hW)
   rw [hA1] at HML
   clear hA1 HA1
   go_wp2_with (first | (go_at_call 29; refine HV.out.mono ?_; rintro e w1 ⟨aV, rfl, _, hb1⟩; have HB1 := Hi hb1; clear HV hb1) | (go_at_call 64; refine (HA1'.out _ HB1.out).mono ?_; rintro e w2 ⟨rfl, hb2⟩; have HB2 := Hi (HB1.out.trans (hb2.mono HB1.out.size)); clear hb2))
   go_ret2
   exact ⟨HB2.out, by rw [HML.out]; rfl⟩
 | true =>
 have HA1' := Hi (fun (W : World) (hW : Below w.heap.size w W) => show Calls _ _ _ _ _ from hA1 ▸ HA1.out W hW)
 rw [hA1] at HML
 clear hA1 HA1
 cases hA2 : vs.all Tm.valueB with
 | false =>
   have HA2' := Hi (fun (W : World) (hW : Below w.heap.size w W) => show Calls _ _ _ _ _ from hA2 ▸ HA2.out W hW)
   rw [hA2] at HML
   clear hA2 HA2
   go_wp2_with (first | (go_at_call 29; refine HV.out.mono ?_; rintro e w1 ⟨aV, rfl, _, hb1⟩; have HB1 := Hi hb1; clear HV hb1) | (go_at_call 64; refine (HA1'.out _ HB1.out).mono ?_; rintro e w2 ⟨rfl, hb2⟩; have HB2 := Hi (HB1.out.trans (hb2.mono HB1.out.size)); clear hb2 HA1') | (go_at_call 64; refine (HA2'.out _ HB2.out).mono ?_; rintro e w3 ⟨rfl, hb3⟩; have HB3 := Hi (HB2.out.trans (hb3.mono HB2.out.size)); clear hb3 HA2'))
   go_ret2
   exact ⟨HB3.out, by rw [HML.out]; rfl⟩
 | true =>
 have HA2' := Hi (fun (W : World) (hW : Below w.heap.size w W) => show Calls _ _ _ _ _ from hA2 ▸ HA2.out W hW)
 rw [hA2] at HML
 clear hA2 HA2
 obtain ⟨lb, hlb2⟩ : ∃ lb, b.length = lb := ⟨_, rfl⟩
 rw [hlb2] at HV
 have HLB := Hi hlb2
 clear hlb2
 go_wp2_with (first | (go_at_call 29; refine HV.out.mono ?_; rintro e w1 ⟨aV, rfl, hbd, hb1⟩; have HBD := Hi hbd; have HB1 := Hi hb1; clear HV hb1 hbd) | (go_at_call 64; refine (HA1'.out _ HB1.out).mono ?_; rintro e w2 ⟨rfl, hb2⟩; have HB2 := Hi (HB1.out.trans (hb2.mono HB1.out.size)); clear hb2 HA1') | (go_at_call 64; refine (HA2'.out _ HB2.out).mono ?_; rintro e w3 ⟨rfl, hb3⟩; have HB3 := Hi (HB2.out.trans (hb3.mono HB2.out.size)); clear hb3 HA2'))
 obtain ⟨W5, hW5⟩ : ∃ W5, w3.alloc (.cells #[.slice aV lb lb, .slice none 0 0] 94) = W5 := ⟨_, rfl⟩
 obtain ⟨P, hP⟩ : ∃ P, w3.heap.size = P := ⟨_, rfl⟩
 have hb5 : Below w3.heap.size w3 W5 := by rw [← hW5]; exact bR.alloc (Nat.le_refl _) _
 have hq5 : W5.heap[P]? = some (.cells #[.slice aV lb lb, .slice none 0 0] 94 (0, 0)) := by rw [← hW5, ← hP]; exact World.alloc_heap_new _ _
 rw [hW5, hP]
 have hbP : w.heap.size ≤ P := hP ▸ HB3.out.size
 have HB5 := Hi (HB3.out.trans (hb5.mono HB3.out.size))
 have hll := HLB.out
 have hsi0 : SI w w.heap.size W5 P b [] := by
   have h1 := HBD.out
   refine ⟨_, _, hq5, ?_, ⟨[], rfl, World.ownsRow_nil _ _ _ _⟩⟩
   subst hll
   exact PS.lent (by omega) h1
 have HFA := Hi (HFA0.out w.heap.size P W5 (Nat.le_refl _) hbP HB5.out HB5.out.size HSRT.out hsi0)
 have HQ5 := Hi hq5
 clear hW5 hP hb5 hq5 hsi0 HFA0 HB1 HB2 HB3 hll HBD
 cases hfit : fitL ps vs (b, []) with
 | none =>
   rw [hfit] at HFA HML
   clear hfit
   go_wp2_with (go_at_call 65; refine HFA.out.mono ?_; rintro e w6 ⟨hb6, rfl⟩)
   go_ret2
   exact ⟨HB5.out.trans hb6, by rw [HML.out]; rfl⟩
 | some st =>
 obtain ⟨c, op⟩ := st
 have hsr := fitL_srt ps vs HSRT.out hfit
 have hvl := fitL_vals ps vs HCB.out (D := 1000000) (fun x hx => by cases hx) (by omega) hcv hfit
 rw [hfit] at HFA HML
 have HSR := Hi hsr
 have HVL := Hi hvl
 have hcl : c.length ≤ 100000 := by have := hsr.2.1; omega
 clear hfit hsr hvl
 obtain ⟨EO, hEO⟩ : ∃ EO, op.all (fun x => expandsB c x.1 x.2) = EO := ⟨_, rfl⟩
 have HEO := Hi (show (op.map fun x => expandsB c x.1 x.2).all id = EO by rw [List.all_map]; exact hEO)
 have HML2 := Hi (show matchL ps vs b = if EO then some c else none by rw [HML.out, ← hEO]; rfl)
 clear hEO HML
 cases EO with
 | false =>
   go_wp2_with (first | (go_at_call 65; refine HFA.out.mono ?_; clear HFA; rintro e w6 ⟨hb6, rfl, hsi⟩; obtain ⟨V6, O6, hP6, hPS6, hOS6⟩ := hsi; have hb56 := HB5.out.trans hb6; obtain ⟨a6, cap6, rfl, hm6, hop6⟩ := open_at (Nat.le_refl _) hb56 hP6 hPS6 hOS6 HSR.out.1 (Nat.le_trans hcl (by decide)) HVL.out.1 HVL.out.2; have hao := allOpen P _ a6 cap6 w6 (by simpa using hm6) hop6; rw [List.length_map, HEO.out] at hao; have HAO := Hi hao; have p0 := cells_at hP6 0 _ rfl; have p1 := cells_at hP6 1 _ rfl; have HP6 := Hi hP6; have HBV := Hi (hPS6.bdV hb56); have HB6 := Hi hb56; clear hao hop6 hm6 hOS6 hPS6 hP6 hb6 hb56) | (go_at_call 66; refine HAO.out.mono ?_; clear HAO; rintro e w7 ⟨rfl, hb7⟩; have q0 := (hb7.cell (p := ⟨P, 0, none⟩) (gL HP6.out)).trans p0; have HBV7 := Hi (HBV.out.grow hb7); have HB7 := Hi (HB6.out.trans (hb7.mono HB6.out.size)); clear hb7))
   go_ret2
   exact ⟨HB7.out, by rw [HML2.out]; rfl⟩
 | true =>
   go_wp2_with (first | (go_at_call 65; refine HFA.out.mono ?_; clear HFA; rintro e w6 ⟨hb6, rfl, hsi⟩; obtain ⟨V6, O6, hP6, hPS6, hOS6⟩ := hsi; have hb56 := HB5.out.trans hb6; obtain ⟨a6, cap6, rfl, hm6, hop6⟩ := open_at (Nat.le_refl _) hb56 hP6 hPS6 hOS6 HSR.out.1 (Nat.le_trans hcl (by decide)) HVL.out.1 HVL.out.2; have hao := allOpen P _ a6 cap6 w6 (by simpa using hm6) hop6; rw [List.length_map, HEO.out] at hao; have HAO := Hi hao; have p0 := cells_at hP6 0 _ rfl; have p1 := cells_at hP6 1 _ rfl; have HP6 := Hi hP6; have HBV := Hi (hPS6.bdV hb56); have HB6 := Hi hb56; clear hao hop6 hm6 hOS6 hPS6 hP6 hb6 hb56) | (go_at_call 66; refine HAO.out.mono ?_; clear HAO; rintro e w7 ⟨rfl, hb7⟩; have q0 := (hb7.cell (p := ⟨P, 0, none⟩) (gL HP6.out)).trans p0; have HBV7 := Hi (HBV.out.grow hb7); have HB7 := Hi (HB6.out.trans (hb7.mono HB6.out.size)); clear hb7) | (go_at_call 68; refine (binding_any c hcl HVL.out.1 V6 w7 HBV7.out).mono ?_; rintro e w8 ⟨v8, rfl, hr8, hb8⟩; have HR8 := Hi hr8.bdV; have HB8 := Hi (HB7.out.trans (hb8.mono HB7.out.size)); clear hr8 hb8))
   go_ret2
   exact ⟨HB8.out, by rw [HML2.out]; exact ⟨_, rfl, HR8.out⟩⟩
end Go.Proofs.YtlmdhlckgbgfhaaGreatDoor
namespace Go.Proofs.YtlmdhlckgbgfhaaGreatDoor
open Go.RowKit Go.Shelf
attribute [local go_sem] Oper.semAt_some

theorem one_tms {w W : World} {g : Nat} {k n : Int} {s : ByteArray} {a : Option Addr} {l c : Nat} {t : Tm} (hB : Below w.heap.size w W) (ht : IsTm w.heap.size w (.int .u8 k) (.int .i64 n) (.string s) (.slice a l c) t) (hg : W.heap[g]? = some (.cells #[.int .u8 k, .int .i64 n, .string s, .slice a l c] 24 (0, 0))) :
   [t] ≠ [] → ∃ g' off, (some (⟨g, 0, none⟩ : Addr)) = some ⟨g', off, none⟩ ∧ g' < W.heap.size ∧ IsTms W.heap.size W g' off [t] := fun _ => by
 refine ⟨g, 0, rfl, (gL hg), ?_⟩
 simp only [IsTms]
 exact ⟨_, _, _, _, cells_at hg 0 _ rfl, cells_at hg 1 _ rfl, cells_at hg 2 _ rfl, cells_at hg 3 _ rfl, (ht.below hB).mono hB.size, trivial⟩
theorem match_any (p v : Tm) (b : Bd) (c0 c1 c2 c3 d0 d1 d2 d3 bv : Value) (w : World) (hp : IsTm w.heap.size w c0 c1 c2 c3 p) (hv : IsTm w.heap.size w d0 d1 d2 d3 v) (hb : BdV w bv b) (hlb : b.length ≤ 40000) (hcb : ∀ x ∈ b, x.2.count ≤ 1000000) (hsb : ∀ x ∈ b, x.1.size ≤ maxLen) (hcp : p.count ≤ 40000) (hcv : v.count ≤ 1000000) :
   Calls Tryz.prog 15 #[.agg #[c0, c1, c2, c3], .agg #[d0, d1, d2, d3], bv] w (MatchPost (matchL [p] [v] b) w) := by
 have hp0 := hp
 have hv0 := hv
 obtain ⟨k2, n2, s2, us2⟩ := p
 obtain ⟨k3, n3, s3, us3⟩ := v
 simp only [IsTm] at hp hv
 obtain ⟨rfl, _, rfl, _, rfl, _, a2, c2, rfl, _, _⟩ := hp
 obtain ⟨rfl, _, rfl, _, rfl, _, a3, c3, rfl, _, _⟩ := hv
 have HM0 := fun (W : World) (g g' : Nat) (hW : Below w.heap.size w W) (h1 : W.heap[g]? = some (.cells #[.int .u8 k2, .int .i64 n2, .string s2, .slice a2 us2.length c2] 24 (0, 0))) (h2 : W.heap[g']? = some (.cells #[.int .u8 k3, .int .i64 n3, .string s3, .slice a3 us3.length c3] 24 (0, 0))) =>
   matchAll_any [.mk k2 n2 s2 us2] [.mk k3 n3 s3 us3] b (some ⟨g, 0, none⟩) (some ⟨g', 0, none⟩) 1 1 bv W (hb.grow hW) hlb hcb hsb (one_tms hW hp0 h1) (one_tms hW hv0 h2) (by simp only [Tm.countL]; omega) (by simp only [Tm.countL]; omega)
 simp only [List.length_cons, List.length_nil, Nat.zero_add] at HM0
 obtain ⟨r, hr⟩ : ∃ r, matchL [.mk k2 n2 s2 us2] [.mk k3 n3 s3 us3] b = r := ⟨_, rfl⟩
 rw [hr] at HM0 ⊢
 obtain ⟨l2, hl2⟩ : ∃ l2, us2.length = l2 := ⟨_, rfl⟩
 obtain ⟨l3, hl3⟩ : ∃ l3, us3.length = l3 := ⟨_, rfl⟩
 rw [hl2, hl3] at HM0 ⊢
 obtain ⟨va, vn, vc, rfl⟩ : ∃ va vn vc, bv = .slice va vn vc := by obtain ⟨a, c, e, _⟩ := hb; exact ⟨_, _, _, e⟩
 obtain ⟨W4, hW4⟩ : ∃ W4, (((w.alloc (.cells #[.int .u8 k2, .int .i64 n2, .string s2, .slice a2 l2 c2] 24)).alloc (.cells #[.int .u8 k3, .int .i64 n3, .string s3, .slice a3 l3 c3] 24)).alloc (.cells #[.int .u8 k2, .int .i64 n2, .string s2, .slice a2 l2 c2] 24)).alloc (.cells #[.int .u8 k3, .int .i64 n3, .string s3, .slice a3 l3 c3] 24) = W4 := ⟨_, rfl⟩
 have hb4 : Below w.heap.size w W4 := by rw [← hW4]; exact ((((Below.refl _ w).alloc (Nat.le_refl _) _).alloc (by simp) _).alloc (by simp; omega) _).alloc (by simp; omega) _
 have h1 : W4.heap[w.heap.size + 1 + 1]? = some (.cells #[.int .u8 k2, .int .i64 n2, .string s2, .slice a2 l2 c2] 24 (0, 0)) := by
   rw [← hW4, Below.heap_alloc _ _ _ (by simp)]
   have := World.alloc_heap_new ((w.alloc (.cells #[.int .u8 k2, .int .i64 n2, .string s2, .slice a2 l2 c2] 24)).alloc (.cells #[.int .u8 k3, .int .i64 n3, .string s3, .slice a3 l3 c3] 24)) (.cells #[.int .u8 k2, .int .i64 n2, .string s2, .slice a2 l2 c2] 24)
   rwa [World.size_alloc, World.size_alloc] at this
 have h2 : W4.heap[w.heap.size + 1 + 1 + 1]? = some (.cells #[.int .u8 k3, .int .i64 n3, .string s3, .slice a3 l3 c3] 24 (0, 0)) := by
   rw [← hW4]
   have := World.alloc_heap_new (((w.alloc (.cells #[.int .u8 k2, .int .i64 n2, .string s2, .slice a2 l2 c2] 24)).alloc (.cells #[.int .u8 k3, .int .i64 n3, .string s3, .slice a3 l3 c3] 24)).alloc (.cells #[.int .u8 k2, .int .i64 n2, .string s2, .slice a2 l2 c2] 24)) (.cells #[.int .u8 k3, .int .i64 n3, .string s3, .slice a3 l3 c3] 24)
   rwa [World.size_alloc, World.size_alloc, World.size_alloc] at this
 have HM := Hi (HM0 W4 _ _ hb4 h1 h2)
 have HB4 := Hi hb4
 clear HM0 hp0 hv0 hb hcb hsb hb4 h1 h2 hr hl2 hl3
 go_enter Tryz.func15, Tryz.ntmps15
 cases r with
 | none =>
   go_wp2_with (go_at_call 36; refine HM.out.mono ?_; rintro e w5 ⟨hb5, rfl⟩)
   go_ret2
   exact ⟨HB4.out.trans (hb5.mono HB4.out.size), rfl⟩
 | some c =>
   go_wp2_with (go_at_call 36; refine HM.out.mono ?_; rintro e w5 ⟨hb5, v5, rfl, hv5⟩; have HV5 := Hi hv5; clear hv5)
   go_ret2
   exact ⟨HB4.out.trans (hb5.mono HB4.out.size), _, rfl, HV5.out⟩
end Go.Proofs.YtlmdhlckgbgfhaaGreatDoor
namespace Go.Proofs.YtlmdhlckgbgfhaaGreatDoor
open Go.RowKit Go.Shelf
attribute [local go_sem] Oper.semAt_some

theorem matchAtom_any (pp pv : ByteArray) (ps vs : List Tm) (b : Bd) (a a' : Option Addr) (capa capb : Nat) (bv : Value) (w : World) (hb : BdV w bv b) (hlb : b.length ≤ 40000) (hcb : ∀ x ∈ b, x.2.count ≤ 1000000) (hsb : ∀ x ∈ b, x.1.size ≤ maxLen)
   (ha : ps ≠ [] → ∃ g off, a = some ⟨g, off, none⟩ ∧ g < w.heap.size ∧ IsTms w.heap.size w g off ps) (ha' : vs ≠ [] → ∃ g off, a' = some ⟨g, off, none⟩ ∧ g < w.heap.size ∧ IsTms w.heap.size w g off vs)
   (hcp : Tm.countL ps ≤ 40000) (hcv : Tm.countL vs ≤ 1000000) :
   Calls Tryz.prog 18 #[.agg #[.string pp, .slice a ps.length capa], .agg #[.string pv, .slice a' vs.length capb], bv] w (MatchPost (if pp = pv then matchL ps vs b else none) w) := by
 have HM0 := fun (W : World) (hW : Below w.heap.size w W) => matchAll_any ps vs b a a' capa capb bv W (hb.grow hW) hlb hcb hsb (fun h => by obtain ⟨g, off, h1, h2, h3⟩ := ha h; exact ⟨g, off, h1, Nat.lt_of_lt_of_le h2 hW.size, (h3.below hW h2).mono hW.size⟩) (fun h => by obtain ⟨g, off, h1, h2, h3⟩ := ha' h; exact ⟨g, off, h1, Nat.lt_of_lt_of_le h2 hW.size, (h3.below hW h2).mono hW.size⟩) hcp hcv
 obtain ⟨va, vn, vc, rfl⟩ : ∃ va vn vc, bv = .slice va vn vc := by obtain ⟨a, c, e, _⟩ := hb; exact ⟨_, _, _, e⟩
 obtain ⟨r, hr⟩ : ∃ r, matchL ps vs b = r := ⟨_, rfl⟩
 rw [hr] at HM0 ⊢
 obtain ⟨lp, hlp⟩ : ∃ l, ps.length = l := ⟨_, rfl⟩
 obtain ⟨lv, hlv⟩ : ∃ l, vs.length = l := ⟨_, rfl⟩
 rw [hlp, hlv] at HM0 ⊢
 obtain ⟨W2, hW2⟩ : ∃ W2, (w.alloc (.cells #[.string pp, .slice a lp capa] 47)).alloc (.cells #[.string pv, .slice a' lv capb] 47) = W2 := ⟨_, rfl⟩
 have hb2 : Below w.heap.size w W2 := by rw [← hW2]; exact ((Below.refl _ w).alloc (Nat.le_refl _) _).alloc (by simp) _
 have h1 : W2.heap[w.heap.size]? = some (.cells #[.string pp, .slice a lp capa] 47 (0, 0)) := by
   rw [← hW2, Below.heap_alloc _ _ _ (by simp)]
   exact World.alloc_heap_new _ _
 have h2 : W2.heap[w.heap.size + 1]? = some (.cells #[.string pv, .slice a' lv capb] 47 (0, 0)) := by
   rw [← hW2]
   have := World.alloc_heap_new (w.alloc (.cells #[.string pp, .slice a lp capa] 47)) (.cells #[.string pv, .slice a' lv capb] 47)
   rwa [World.size_alloc] at this
 have x0 := cells_at h1 0 _ rfl
 have x1 := cells_at h1 1 _ rfl
 have x2 := cells_at h2 0 _ rfl
 have x3 := cells_at h2 1 _ rfl
 have HM := Hi (HM0 W2 hb2)
 have HB2 := Hi hb2
 clear HM0 hb hcb hsb ha ha' hb2 h1 h2 hr hlp hlv
 by_cases hpp : pp = pv
 · subst hpp
   rw [if_pos rfl]
   go_enter Tryz.func18, Tryz.ntmps18
   cases r with
   | none =>
     go_wp2_with (go_at_call 36; refine HM.out.mono ?_; rintro e w5 ⟨hb5, rfl⟩)
     go_ret2
     exact ⟨HB2.out.trans (hb5.mono HB2.out.size), rfl⟩
   | some c =>
     go_wp2_with (go_at_call 36; refine HM.out.mono ?_; rintro e w5 ⟨hb5, v5, rfl, hv5⟩; have HV5 := Hi hv5; clear hv5)
     go_ret2
     exact ⟨HB2.out.trans (hb5.mono HB2.out.size), _, rfl, HV5.out⟩
 · rw [if_neg hpp]
   have hne : (pp.toList == pv.toList) = false := beq_eq_false_iff_ne.2 fun e => hpp (str_inj.1 e)
   clear hpp
   go_enter Tryz.func18, Tryz.ntmps18
   go_wp2
   go_ret2
   exact ⟨HB2.out, rfl⟩
end Go.Proofs.YtlmdhlckgbgfhaaGreatDoor
namespace Go.Proofs.YtlmdhlckgbgfhaaGreatDoor
open Go.RowKit Go.Shelf
attribute [local go_sem] Oper.semAt_some

def sumB : Bd → Nat
 | [] => 0
 | x :: r => x.2.count + sumB r
theorem sumB_mem : ∀ {b : Bd} {x : ByteArray × Tm}, x ∈ b → x.2.count ≤ sumB b
 | y :: r, x, h => by
   rw [sumB]
   rcases List.mem_cons.1 h with rfl | h
   · omega
   · have := sumB_mem h
     omega
end Go.Proofs.YtlmdhlckgbgfhaaGreatDoor
namespace Go.Proofs.YtlmdhlckgbgfhaaGreatDoor
open Go.RowKit

mutual
def sameB (t t' : Tm) : Bool := match t, t' with
 | .mk k n s us, .mk k' n' s' us' => (k == k') && ((n == n') && ((s.toList == s'.toList) && sameL us us'))
def sameL (us us' : List Tm) : Bool := match us, us' with
 | [], [] => true
 | t :: ts, t' :: ts' => sameB t t' && sameL ts ts'
 | _, _ => false
end
theorem bytes_inj {s t : ByteArray} (h : s.toList = t.toList) : s = t := by
 rw [ByteArray.toList_eq, ByteArray.toList_eq] at h
 cases s; cases t
 simp only at h
 congr 1
 exact Array.toList_inj.1 h
mutual
theorem sameB_iff : ∀ t t' : Tm, sameB t t' = true ↔ t = t'
 | .mk k n s us, .mk k' n' s' us' => by
   simp only [sameB, Bool.and_eq_true, beq_iff_eq, sameL_iff us us']
   constructor
   · rintro ⟨rfl, rfl, h, rfl⟩; rw [bytes_inj h]
   · intro e; injection e with e1 e2 e3 e4; subst e1 e2 e3 e4; exact ⟨rfl, rfl, rfl, rfl⟩
theorem sameL_iff : ∀ us us' : List Tm, sameL us us' = true ↔ us = us'
 | [], [] => by simp [sameL]
 | [], _ :: _ => by simp [sameL]
 | _ :: _, [] => by simp [sameL]
 | t :: ts, t' :: ts' => by simp only [sameL, Bool.and_eq_true, sameB_iff t t', sameL_iff ts ts', List.cons.injEq]
end
theorem sameL_len {us us' : List Tm} (h : us.length ≠ us'.length) : sameL us us' = false := by
 cases e : sameL us us' with
 | false => rfl
 | true => exact absurd (congrArg List.length ((sameL_iff us us').1 e)) h

def SmAt (B : Nat) (t : Tm) : Prop := ∀ (t' : Tm) (c0 c1 c2 c3 d0 d1 d2 d3 : Value) (W : World), IsTm B W c0 c1 c2 c3 t → IsTm B W d0 d1 d2 d3 t' → B ≤ W.heap.size →
 Calls Tryz.prog 22 #[.agg #[c0, c1, c2, c3], .agg #[d0, d1, d2, d3]] W fun e W' => e = .returned (.bool (sameB t t')) ∧ Below W.heap.size W W'

set_option maxRecDepth 100000 in
set_option maxHeartbeats 2000000 in
theorem sameTerms_at (B : Nat) (us us' : List Tm) (ih : ∀ t ∈ us, SmAt B t) (a a' : Option Addr) (cap cap' : Nat) (W : World) (hB : B ≤ W.heap.size) (hl : us.length ≤ maxLen) (_hl' : us'.length ≤ maxLen)
   (hargs : us ≠ [] → ∃ b off, a = some ⟨b, off, none⟩ ∧ b < B ∧ IsTms B W b off us) (hargs' : us' ≠ [] → ∃ b off, a' = some ⟨b, off, none⟩ ∧ b < B ∧ IsTms B W b off us') :
   Calls Tryz.prog 41 #[.slice a us.length cap, .slice a' us'.length cap'] W fun e W' => e = .returned (.bool (sameL us us')) ∧ Below W.heap.size W W' := by
 unfold maxLen at hl
 have HA := Hi hargs; clear hargs
 have HA' := Hi hargs'; clear hargs'
 have IH := Hi ih; clear ih
 by_cases hlen : us.length = us'.length
 case neg =>
   rw [sameL_len hlen]
   have e1 : ((us.length : Int) != (us'.length : Int)) = true := by simp; omega
   go_enter Tryz.func41, Tryz.ntmps41
   go_wp2
   go_ret
   exact ⟨rfl, Below.refl _ _⟩
 rw [← hlen]
 have HL := Hi hlen
 clear hlen
 obtain ⟨R, hR⟩ : ∃ R, sameL us us' = R := ⟨_, rfl⟩
 rw [hR]
 go_enter Tryz.func41, Tryz.ntmps41
 go_wp2_with fail
 go_loopw [5] (fun i wr => ∃ (j : Nat), j ≤ us.length ∧ i = .int .i64 j ∧ sameL (us.drop j) (us'.drop j) = R ∧ Below W.heap.size W wr) (fun i _ => us.length - (intOf i).toNat)
 case atStart => exact ⟨0, by omega, by go_num, by simpa using hR, Below.refl _ _⟩
 case round =>
   obtain ⟨j, hj, rfl, hk, hBr⟩ := hrel
   clear hR
   by_cases hlt : j < us.length
   · have hlen := HL.out
     have hlt' : j < us'.length := by omega
     rw [List.drop_eq_getElem_cons (l := us) hlt, List.drop_eq_getElem_cons (l := us') hlt'] at hk
     simp only [sameL] at hk
     obtain ⟨b, off, rfl, hb, hI⟩ := HA.out (by intro e; rw [e] at hlt; simp at hlt)
     obtain ⟨b', off', rfl, hb', hI'⟩ := HA'.out (by intro e; rw [e] at hlen; simp at hlen; rw [hlen] at hlt; simp at hlt)
     obtain ⟨c0, c1, c2, c3, e0, e1, e2, e3, hc⟩ := hI.at j hlt
     obtain ⟨d0, d1, d2, d3, k0, k1, k2, k3, hd⟩ := hI'.at j hlt'
     have hsz := hBr.size
     have g0 := (hBr.cell (p := ⟨b, off + j * 4, none⟩) (by show b < _; omega)).trans e0
     have g1 := (hBr.cell (p := ⟨b, off + j * 4 + 1, none⟩) (by show b < _; omega)).trans e1
     have g2 := (hBr.cell (p := ⟨b, off + j * 4 + 2, none⟩) (by show b < _; omega)).trans e2
     have g3 := (hBr.cell (p := ⟨b, off + j * 4 + 3, none⟩) (by show b < _; omega)).trans e3
     have l0 := (hBr.cell (p := ⟨b', off' + j * 4, none⟩) (by show b' < _; omega)).trans k0
     have l1 := (hBr.cell (p := ⟨b', off' + j * 4 + 1, none⟩) (by show b' < _; omega)).trans k1
     have l2 := (hBr.cell (p := ⟨b', off' + j * 4 + 2, none⟩) (by show b' < _; omega)).trans k2
     have l3 := (hBr.cell (p := ⟨b', off' + j * 4 + 3, none⟩) (by show b' < _; omega)).trans k3
     have HS := Hi (IH.out us[j] (List.getElem_mem hlt) us'[j] c0 c1 c2 c3 d0 d1 d2 d3 wr.drew (hc.below (hBr.mono hB).drew) (hd.below (hBr.mono hB).drew) (by show B ≤ wr.heap.size; omega))
     have hBd : Below W.heap.size W wr.drew := hBr.drew
     have hsd : W.heap.size ≤ wr.drew.heap.size := hsz
     have HBD := Hi hBd
     have HSD := Hi hsd
     cases hs : sameB us[j] us'[j]
     all_goals
       rw [hs] at hk HS
       first | rw [Bool.true_and] at hk | rw [Bool.false_and] at hk
       have HK := Hi hk
       clear e0 e1 e2 e3 k0 k1 k2 k3 hc hd hs hBd hk hsd hlen
       have i1 : (0 : Int) ≤ (j : Int) := by omega
       have i2 : (j : Int) < (us.length : Int) := by omega
       go_wp2_with fail
       go_still_tail 8, (by kernel_rfl)
       change wpList _ _ _ _ _ wr.drew
       go_wp2_with (go_at_call 22; refine HS.out.mono ?_)
       clear HS
       rintro e W2 ⟨rfl, hB2⟩
       have hB2' : Below W.heap.size W W2 := HBD.out.trans (hB2.mono HSD.out)
       clear hB2
       go_wp2_with fail
     · go_ret
       exact ⟨by rw [← HK.out]; rfl, hB2'⟩
     · go_roundw
       case rel => exact ⟨j + 1, by omega, by go_num, HK.out, hB2'⟩
       case measure => simp [intOf]; omega
   · rw [List.drop_eq_nil_of_le (by omega), List.drop_eq_nil_of_le (by have := HL.out; omega)] at hk
     simp only [sameL] at hk
     subst hk
     have HB := Hi hBr
     clear hBr
     go_wp2
     go_ret
     exact ⟨rfl, HB.out⟩

set_option maxRecDepth 100000 in
set_option maxHeartbeats 2000000 in
theorem sameTerm_at (B : Nat) (t : Tm) : SmAt B t := by
 induction t using Tm.ind with
 | h k n s us ih =>
   rintro ⟨k', n', s', us'⟩ c0 c1 c2 c3 d0 d1 d2 d3 W h1 h2 hB
   simp only [IsTm] at h1 h2
   obtain ⟨rfl, hk, rfl, hn, rfl, hs, a, cap, rfl, hl, hargs⟩ := h1
   obtain ⟨rfl, hk', rfl, hn', rfl, hs', a', cap', rfl, hl', hargs'⟩ := h2
   have hB1 : Below W.heap.size W ((W.alloc (.cells #[.int .u8 k, .int .i64 n, .string s, .slice a us.length cap] 24)).alloc (.cells #[.int .u8 k', .int .i64 n', .string s', .slice a' us'.length cap'] 24)) :=
     ((Below.refl _ W).alloc (Nat.le_refl _) _).alloc (by simp) _
   have hS := sameTerms_at B us us' ih a a' cap cap' _ (Nat.le_trans hB hB1.size) hl hl' (fun hne => by obtain ⟨b, off, h1, h2, h3⟩ := hargs hne; exact ⟨b, off, h1, h2, h3.below (hB1.mono hB) h2⟩)
     (fun hne => by obtain ⟨b, off, h1, h2, h3⟩ := hargs' hne; exact ⟨b, off, h1, h2, h3.below (hB1.mono hB) h2⟩)
   have hR : sameB (.mk k n s us) (.mk k' n' s' us') = ((k == k') && ((n == n') && ((s.toList == s'.toList) && sameL us us'))) := by simp only [sameB]
   have HS := Hi hS
   have HB := Hi hB1
   clear hS hB1 hargs hargs' ih hl hs hn hk hl' hs' hn' hk'
   cases e1 : k == k' <;> rw [e1] at hR
   · rw [Bool.false_and] at hR
     have HR := Hi hR
     clear hR
     go_enter Tryz.func22, Tryz.ntmps22
     go_wp2
     go_ret
     exact ⟨by rw [HR.out]; rfl, HB.out⟩
   cases e2 : n == n' <;> rw [e2] at hR
   · rw [Bool.false_and, Bool.and_false] at hR
     have HR := Hi hR
     clear hR
     go_enter Tryz.func22, Tryz.ntmps22
     go_wp2
     go_ret
     exact ⟨by rw [HR.out]; rfl, HB.out⟩
   cases e3 : s.toList == s'.toList <;> rw [e3] at hR
   · rw [Bool.false_and, Bool.and_false, Bool.and_false] at hR
     have HR := Hi hR
     clear hR
     go_enter Tryz.func22, Tryz.ntmps22
     go_wp2
     go_ret
     exact ⟨by rw [HR.out]; rfl, HB.out⟩
   · rw [Bool.true_and, Bool.true_and, Bool.true_and] at hR
     have HR := Hi hR
     clear hR
     go_enter Tryz.func22, Tryz.ntmps22
     go_wp2_with (go_at_call 41; refine HS.out.mono ?_; clear HS; rintro e W2 ⟨rfl, hB2⟩)
     have hBf := HB.out.trans (hB2.mono HB.out.size)
     go_ret
     exact ⟨by rw [HR.out]; rfl, hBf⟩

theorem sameTerm_any (t t' : Tm) (c0 c1 c2 c3 d0 d1 d2 d3 : Value) (W : World) (h : IsTm W.heap.size W c0 c1 c2 c3 t) (h' : IsTm W.heap.size W d0 d1 d2 d3 t') :
   Calls Tryz.prog 22 #[.agg #[c0, c1, c2, c3], .agg #[d0, d1, d2, d3]] W fun e W' => e = .returned (.bool (sameB t t')) ∧ Below W.heap.size W W' :=
 sameTerm_at W.heap.size t t' c0 c1 c2 c3 d0 d1 d2 d3 W h h' (Nat.le_refl _)

end Go.Proofs.YtlmdhlckgbgfhaaGreatDoor
