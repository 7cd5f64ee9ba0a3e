/- The laws of match: variables within open parts. -/
import Derived.Test.YtlmdhlckgbgfhaaGreatDoorYQa
import Derived.Test.YtlmdhlckgbgfhaaGreatDoorYn
set_option maxRecDepth 100000
set_option maxHeartbeats 400000000
namespace Go.Proofs.YtlmdhlckgbgfhaaGreatDoor
open Go.RowKit Go.Shelf
attribute [local go_sem] Oper.semAt_some

theorem nodup_len : ∀ {l m : List (List UInt8)}, l.Nodup → (∀ x ∈ l, x ∈ m) → l.length ≤ m.length
 | [], _, _, _ => Nat.zero_le _
 | a :: l, m, hn, hs => by
   rw [List.nodup_cons] at hn
   have ha := hs a (by simp)
   have := nodup_len (m := m.erase a) hn.2 fun x hx => (List.mem_erase_of_ne (by intro e; rw [e] at hx; exact hn.1 hx)).2 (hs x (List.mem_cons_of_mem _ hx))
   rw [List.length_erase_of_mem ha] at this
   have := List.length_pos_of_mem ha
   simp only [List.length_cons]
   omega
mutual
theorem names_vars : ∀ (t : Tm) (p : Nat), varNames (t.nodes p) = (varsT t).map fun x => x.data.toList
 | .mk k n s us, p => by
   have ih := names_varsL us (p + 1)
   unfold varNames at ih ⊢
   simp only [Tm.nodes, varsT, List.map_append]
   rw [List.filter_cons]
   by_cases h : k = 3
   · rw [if_pos (by simp [Tm.isVar, Tm.kind, h]), List.map_cons, ih, if_pos h]
     rfl
   · rw [if_neg (by simp [Tm.isVar, Tm.kind, h]), ih, if_neg h]
     rfl
theorem names_varsL : ∀ (ts : List Tm) (p : Nat), varNames (Tm.nodesL p ts) = (varsL ts).map fun x => x.data.toList
 | [], _ => rfl
 | t :: ts, p => by
   have h1 := names_vars t p
   have h2 := names_varsL ts p
   unfold varNames at h1 h2 ⊢
   simp only [Tm.nodesL, varsL, List.filter_append, List.map_append, h1, h2]
end
mutual
theorem vars_count : ∀ t : Tm, (varsT t).length ≤ t.count
 | .mk k n s us => by
   have := varsL_count us
   simp only [varsT, Tm.count, List.length_append]
   split <;> simp <;> omega
theorem varsL_count : ∀ ts : List Tm, (varsL ts).length ≤ Tm.countL ts
 | [] => Nat.zero_le _
 | t :: ts => by
   have := vars_count t
   have := varsL_count ts
   simp only [varsL, Tm.countL, List.length_append]
   omega
end
mutual
theorem nodes_many : ∀ (t : Tm) (p : Nat), (t.nodes p).length = t.count
 | .mk k n s us, p => by simp only [Tm.nodes, List.length_cons, nodes_manyL us (p + 1), Tm.count]
theorem nodes_manyL : ∀ (ts : List Tm) (p : Nat), (Tm.nodesL p ts).length = Tm.countL ts
 | [], _ => rfl
 | t :: ts, p => by simp only [Tm.nodesL, List.length_append, nodes_many t p, nodes_manyL ts p, Tm.countL]
end
theorem countL_two : ∀ a b : List Tm, Tm.countL (a ++ b) = Tm.countL a + Tm.countL b
 | [], b => by simp [Tm.countL]
 | t :: a, b => by simp only [List.cons_append, Tm.countL, countL_two a b]; omega
def StrsW (base : Nat) (w : World) (v : Value) (l : List ByteArray) : Prop := w.ownsRow base 9 1 v l.length (l.map Value.string)
theorem StrsW.low {base base' : Nat} {w : World} {v : Value} {l : List ByteArray} (h : StrsW base w v l) (hb : base' ≤ base) : StrsW base' w v l := by
 refine ⟨h.1, h.2.imp id ?_⟩
 rintro ⟨g, cap, cur, e, q1, q2⟩
 exact ⟨g, cap, cur, e, Nat.le_trans hb q1, q2⟩
theorem StrsW.at {base : Nat} {w : World} {v : Value} {l : List ByteArray} (h : StrsW base w v l) : StrsAt w v l := by
 have ho := h
 obtain ⟨_, ⟨rfl, h0⟩ | ⟨g, cap, cur, rfl, _, hg, hc, hm, _, _⟩⟩ := h
 · have : l = [] := List.length_eq_zero_iff.1 h0
   subst this
   exact ⟨none, 0, rfl, Nat.zero_le _, fun e => absurd rfl e⟩
 · refine ⟨some ⟨g, 0, none⟩, cap, rfl, Nat.le_trans hc hm, fun _ => ⟨g, 0, rfl, fun i x hx => ?_⟩⟩
   have := ho.cells (g := g) rfl i (.string x) (by rw [List.getElem?_map, hx]; rfl)
   rwa [Addr.add_lit] at this
theorem wpList_append_strs {ops : Array Oper} {rest : List Oper} {o : Oper} {a : Act} {Q : Exit → Act → World → Prop} {w : World} (hgd : o.guard = none) (s x : Operand)
   (ho : o.op = .call { callee := .builtin .append, args := #[s, x], argTypes := #[36, 36] }) (base : Nat) (v : Value) (n : Nat) (xs : List Value) (hs : a.eval s = v) (hown : w.ownsRow base 9 1 v n xs)
   (v5 : Value) (hx : a.eval x = v5) (B5 : Nat) (O : List ByteArray) (h5 : StrsW B5 w v5 O) (hn : n + O.length ≤ 1000000000) (hbase : base ≤ w.heap.size)
   (h : ∀ v' w', w'.ownsRow base 9 1 v' (n + O.length) (xs ++ O.map Value.string) → w.grownBy w' v.ownBlock → wpList Tryz.prog ops Q rest (a.put o.dst v') w') : wpList Tryz.prog ops Q (o :: rest) a w := by
 obtain ⟨i0, hi, hz0, hzz1, hz2⟩ := info_parts info_string07
 have hs5 := h5
 obtain ⟨_, ⟨rfl, h0⟩ | ⟨g5, cap5, cur5, rfl, _⟩⟩ := hs5
 · have hoe : O = [] := List.length_eq_zero_iff.1 h0
   subst hoe
   exact wpList_append_own_none hgd s x 36 ho base 9 i0 1 Tryz.underlying36 hi v n xs hs hown hx (h v w (by simpa using hown) (World.grownBy.refl _ _))
 · refine wpList_append_own_at _ hgd s x 36 ho base 9 i0 _ 1 16 Tryz.underlying36 hi hz0 hzz1 hz2 rfl (by decide) v n xs hs hown ⟨g5, 0, none⟩ O.length cap5 (O.map Value.string) hx (by simp) (fun jj u' hu' => h5.cells (g := g5) rfl jj u' hu') ?_ (by unfold maxLen; omega) (by omega) hbase (fun v' w' q1 q2 _ _ => h v' w' q1 q2)
   intro u hu
   obtain ⟨x, _, rfl⟩ := List.mem_map.1 hu
   rfl
def InnAt (t : Tm) : Prop := ∀ (c0 c1 c2 c3 : Value) (w : World), IsTm w.heap.size w c0 c1 c2 c3 t → t.count ≤ 1000000 → Calls Tryz.prog 13 #[.agg #[c0, c1, c2, c3]] w fun e w' => ∃ v l, e = .returned v ∧ StrsW w.heap.size w' v l ∧ l.length ≤ t.count ∧ (∀ x, x ∈ l ↔ x ∈ innerT t) ∧ Below w.heap.size w w'
theorem vars_row {t : Tm} {w w' : World} {e : Ending} (h : VarsPost t w e w') : ∃ v l, e = .returned v ∧ StrsW w.heap.size w' v l ∧ l.length ≤ t.count ∧ (∀ x, x ∈ l ↔ x ∈ varsT t) ∧ Below w.heap.size w w' := by
 obtain ⟨v, ss, rfl, ⟨hp, hm⟩, ho, hb⟩ := h
 rw [names_vars] at hm
 refine ⟨v, ss.map fun x => ⟨x.toArray⟩, rfl, ?_, ?_, fun x => ?_, hb⟩
 · unfold StrsW
   rw [List.length_map, List.map_map]
   exact ho
 · rw [List.length_map]
   have h1 : ss.Nodup := hp.imp fun hab e => by rw [e] at hab; exact List.lt_irrefl _ hab
   have h2 := nodup_len h1 fun x hx => (hm x).1 hx
   rw [List.length_map] at h2
   exact Nat.le_trans h2 (vars_count t)
 · rw [List.mem_map]
   constructor
   · rintro ⟨y, hy, rfl⟩
     obtain ⟨z, hz, e⟩ := List.mem_map.1 ((hm y).1 hy)
     rw [← e]
     exact hz
   · intro hx
     exact ⟨x.data.toList, (hm _).2 (List.mem_map.2 ⟨x, hx, rfl⟩), rfl⟩
theorem inner07_any (t : Tm) : InnAt t := by
 induction t using Tm.ind with
 | h k n s us ih =>
   intro c0 c1 c2 c3 w h hc
   have h0 := h
   simp only [IsTm] at h
   obtain ⟨rfl, _, rfl, _, rfl, _, a, cap, rfl, hl, hr⟩ := h
   obtain ⟨W1, hW1, hq, hb1, hz1⟩ := rowTerm w (.int .u8 k) (.int .i64 n) (.string s) (.slice a us.length cap)
   have HV := Hi (vars_any (.mk k n s us) _ _ _ _ W1 ((h0.below hb1).mono hb1.size) (by have := Tm.depth_le_count (.mk k n s us); omega) (by rw [nodes_many]; omega))
   have q0 := cells_at hq 0 _ rfl
   have q1 := cells_at hq 1 _ rfl
   have q2 := cells_at hq 2 _ rfl
   have q3 := cells_at hq 3 _ rfl
   have HQ := Hi hq
   have HB1 := Hi hb1
   have HR := Hi hr
   have HIH := Hi ih
   have HC := Hi hc
   have HCT := Hi (show (Tm.mk k n s us).count = Tm.countL us + 1 from rfl)
   have hlen : us.length ≤ 9223372036854775807 := by unfold maxLen at hl; exact hl
   obtain ⟨i0, hi, hz0, hzz1, hz2⟩ := info_parts info_string07
   by_cases h56 : k = 5 ∨ k = 6
   · have HT := Hi (show innerT (.mk k n s us) = varsT (.mk k n s us) by simp only [innerT, if_pos h56])
     clear h0 hq hb1 hr ih hc hl hz1
     go_enter Tryz.func13, Tryz.ntmps13
     rcases h56 with rfl | rfl
     · go_wp2_with (go_at_call 35; refine HV.out.mono ?_; intro e w2 hpo; obtain ⟨v, l, rfl, p1, p2, p3, p4⟩ := vars_row hpo; clear hpo; have P1 := Hi p1; have P2 := Hi p2; have P3 := Hi p3; have P4 := Hi p4; clear p1 p2 p3 p4)
       go_ret
       exact ⟨_, l, rfl, P1.out.low HB1.out.size, P2.out, by rw [HT.out]; exact P3.out, HB1.out.trans (P4.out.mono HB1.out.size)⟩
     · go_wp2_with (go_at_call 35; refine HV.out.mono ?_; intro e w2 hpo; obtain ⟨v, l, rfl, p1, p2, p3, p4⟩ := vars_row hpo; clear hpo; have P1 := Hi p1; have P2 := Hi p2; have P3 := Hi p3; have P4 := Hi p4; clear p1 p2 p3 p4)
       go_ret
       exact ⟨_, l, rfl, P1.out.low HB1.out.size, P2.out, by rw [HT.out]; exact P3.out, HB1.out.trans (P4.out.mono HB1.out.size)⟩
   · have HT := Hi (show innerT (.mk k n s us) = innerL us by simp only [innerT, if_neg h56])
     have b5 : (k == 5) = false := by simpa using fun h => h56 (Or.inl h)
     have b6 : (k == 6) = false := by simpa using fun h => h56 (Or.inr h)
     clear h0 hq hb1 hr ih hc hl hz1 HV h56
     go_enter Tryz.func13, Tryz.ntmps13
     go_wp2
     go_loopw [3, 4] (fun v i wr => ∃ (j : Nat) (l : List ByteArray), j ≤ us.length ∧ i = .int .i64 j ∧ StrsW W1.heap.size wr v l ∧ l.length ≤ Tm.countL (us.take j) ∧ (∀ x, x ∈ l ↔ x ∈ innerL (us.take j)) ∧ Below W1.heap.size W1 wr) (fun _ i _ => us.length - (intOf i).toNat)
     case atStart => exact ⟨0, [], Nat.zero_le _, rfl, World.ownsRow_nil _ _ _ _, Nat.zero_le _, fun x => by simp [innerL], Below.refl _ _⟩
     case round =>
       obtain ⟨j, L, hj, rfl, hV, hL, hM, hB⟩ := hrel
       have hq1 := (hB.block w.heap.size (gL HQ.out)).trans HQ.out
       have q3 := cells_at hq1 3 _ rfl
       have HB := Hi hB
       clear hq1 hB
       by_cases hlt : j < us.length
       · obtain ⟨g, off, rfl, hg, hi'⟩ := HR.out (by intro e; rw [e] at hlt; simp at hlt)
         have hB0 : Below w.heap.size w wr := HB1.out.trans (HB.out.mono HB1.out.size)
         obtain ⟨x0, x1, x2, x3, y0, y1, y2, y3, ht⟩ := (hi'.below hB0 hg).at j hlt
         have HI := Hi (HIH.out us[j] (List.getElem_mem hlt) x0 x1 x2 x3 wr (ht.mono hB0.size) (by have := HC.out; have := HCT.out; have := count_mem (List.getElem_mem hlt); omega))
         have htk : innerL (us.take (j + 1)) = innerL (us.take j) ++ innerT us[j] := by rw [List.take_succ_eq_append_getElem hlt, innerL_snoc]
         have HTK := Hi htk
         have hct : Tm.countL (us.take (j + 1)) = Tm.countL (us.take j) + us[j].count := by rw [List.take_succ_eq_append_getElem hlt, countL_two]; simp [Tm.countL]
         have HCK := Hi hct
         have HCL := Hi (countL_pre us (j + 1))
         have HL := Hi hL
         have HM := Hi hM
         have i1 : (0 : Int) ≤ (j : Int) := by omega
         have i2 : (j : Int) < (us.length : Int) := by omega
         have HOW := Hi hV
         obtain ⟨va, vn, vc, rfl⟩ := ownSlice hV
         clear hi' hB0 ht htk hct hV hL hM
         obtain ⟨CJ, hCJ⟩ : ∃ c, us[j].count = c := ⟨_, rfl⟩
         obtain ⟨IJ, hIJ⟩ : ∃ c, innerT us[j] = c := ⟨_, rfl⟩
         rw [hCJ] at HCK HI
         rw [hIJ] at HTK HI
         clear hCJ hIJ
         go_wp2_with (first
           | (at_builtin; refine wpList_append_strs rfl _ _ rfl W1.heap.size (.slice va vn vc) L.length (L.map Value.string) rfl (own_grown HOW.out HB5.out) _ rfl _ O HS5.out ?c3 ?c5 ?_)
           | (go_at_call 13; refine HI.out.mono ?_; clear HI; rintro e w5 ⟨v5, O, rfl, hs5, hl5, hm5, hb5⟩; have HS5 := Hi hs5; have HL5 := Hi hl5; have HM5 := Hi hm5; have HB5 := Hi hb5; clear hs5 hl5 hm5 hb5))
         case c3 => have := HL.out; have := HL5.out; have := HCK.out; have := HCL.out; have := HC.out; have := HCT.out; omega
         case c5 => have := HB.out.size; have := HB5.out.size; omega
         intro v' w' hown' hgrow
         obtain ⟨b1, b2, b3, rfl⟩ := ownSlice hown'
         have hB' : Below W1.heap.size W1 w' := (HB.out.trans (HB5.out.mono HB.out.size)).grown hgrow (by have := HB.out.size; have := HB5.out.size; omega) (fun k e => (HOW.out.lt k e).1)
         have HB' := Hi hB'
         have HOWN := Hi hown'
         clear hown' hgrow hB'
         try simp only [Act.put, List.setIfInBounds_toArray, List.set_cons_succ, List.set_cons_zero]
         go_wp2
         go_roundw
         case rel => exact ⟨j + 1, L ++ O, by omega, by go_num, by unfold StrsW; rw [List.length_append, List.map_append]; exact HOWN.out, by rw [List.length_append]; have := HL.out; have := HL5.out; have := HCK.out; omega, fun x => by rw [HTK.out, List.mem_append, List.mem_append, HM.out x, HM5.out x], HB'.out⟩
         case measure => simp [intOf]; omega
       · have i2 : ¬ (j : Int) < (us.length : Int) := by omega
         rw [List.take_of_length_le (by omega)] at hL hM
         have HOW := Hi hV
         obtain ⟨va, vn, vc, rfl⟩ := ownSlice hV
         have HL := Hi hL
         have HM := Hi hM
         clear hL hM hV
         go_wp2
         go_ret
         exact ⟨_, rfl, L, HOW.out.low HB1.out.size, by have := HL.out; have := HCT.out; omega, by rw [HT.out]; exact HM.out, HB1.out.trans (HB.out.mono HB1.out.size)⟩
end Go.Proofs.YtlmdhlckgbgfhaaGreatDoor
