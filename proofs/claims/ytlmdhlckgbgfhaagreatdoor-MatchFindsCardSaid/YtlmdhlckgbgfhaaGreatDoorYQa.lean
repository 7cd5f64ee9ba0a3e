/- Package match: what is matched by an expansion (mathematics of MatchFinds). -/
import Derived.Test.YtlmdhlckgbgfhaaGreatDoorYn
set_option maxRecDepth 100000
set_option maxHeartbeats 400000000
namespace Go.Proofs.YtlmdhlckgbgfhaaGreatDoor
open Go.RowKit Go.Shelf

mutual
def varsT : Tm → List ByteArray
 | .mk k _ s us => (if k = 3 then [s] else []) ++ varsL us
def varsL : List Tm → List ByteArray
 | [] => []
 | t :: ts => varsT t ++ varsL ts
end
mutual
def innerT : Tm → List ByteArray
 | .mk k n s us => if k = 5 ∨ k = 6 then varsT (.mk k n s us) else innerL us
def innerL : List Tm → List ByteArray
 | [] => []
 | t :: ts => innerT t ++ innerL ts
end
theorem innerL_snoc : ∀ (ts : List Tm) (t : Tm), innerL (ts ++ [t]) = innerL ts ++ innerT t
 | [], t => by simp [innerL]
 | a :: ts, t => by simp only [List.cons_append, innerL, innerL_snoc ts t, List.append_assoc]
mutual
theorem apply_congr {b c : Bd} : ∀ t : Tm, (∀ n ∈ varsT t, lookB c n = lookB b n) → applyT c t = applyT b t
 | .mk k n s us, h => by
   simp only [varsT, List.mem_append] at h
   have ih := apply_congrL us fun m hm => h m (Or.inr hm)
   simp only [applyT]
   by_cases h3 : k = 3
   · rw [if_pos h3, if_pos h3, h s (Or.inl (by rw [if_pos h3]; simp)), ih]
   · rw [if_neg h3, if_neg h3, ih]
theorem apply_congrL {b c : Bd} : ∀ ts : List Tm, (∀ n ∈ varsL ts, lookB c n = lookB b n) → applyTL c ts = applyTL b ts
 | [], _ => rfl
 | t :: ts, h => by
   simp only [varsL, List.mem_append] at h
   simp only [applyTL, apply_congr t fun m hm => h m (Or.inl hm), apply_congrL ts fun m hm => h m (Or.inr hm)]
end
theorem look_filter {b : Bd} (f : ByteArray → Bool) (n : ByteArray) : lookB (b.filter fun x => f x.1) n = if f n = true then lookB b n else none := by
 unfold lookB
 rw [List.find?_filter]
 by_cases h : f n = true
 · rw [if_pos h]
   congr 2
   funext x
   by_cases e : x.1 = n
   · simp [e, h]
   · simp [e]
 · rw [if_neg h]
   have : (b.find? fun x => decide (f x.1 = true ∧ decide (x.1 = n) = true)) = none := by
     rw [List.find?_eq_none]
     intro x _ hx
     simp only [decide_eq_true_eq] at hx
     exact h (hx.2 ▸ hx.1)
   rw [this]; rfl
def OpenOk (b : Bd) (D : Nat) (N : List ByteArray) (x : Tm × Tm) : Prop := (applyT b x.1).okB = true ∧ (applyT b x.1).closedB = true ∧ (applyT b x.1).depth ≤ D ∧ (∃ l, (applyT b x.1).exp = some l ∧ x.2 ∈ l) ∧ ∀ n ∈ varsT x.1, n ∈ N
theorem OpenOk.more {b : Bd} {D D' : Nat} {N N' : List ByteArray} {x : Tm × Tm} (h : OpenOk b D N x) (hD : D ≤ D') (hN : ∀ n ∈ N, n ∈ N') : OpenOk b D' N' x := ⟨h.1, h.2.1, Nat.le_trans h.2.2.1 hD, h.2.2.2.1, fun n hn => hN n (h.2.2.2.2 n hn)⟩
theorem seven {b : Bd} {s : ByteArray} {u : Tm} (hb : ∀ x ∈ b, x.2.flatB = true ∧ x.2.okB = true) (h : lookB b s = some u) : u.flatB = true ∧ u.okB = true := hb _ (look_mem h)
mutual
theorem finds_dec {b : Bd} (hb : ∀ x ∈ b, x.2.flatB = true ∧ x.2.okB = true) : ∀ (p v : Tm) (l : List Tm), p.okB = true → (applyT b p).okB = true → (applyT b p).closedB = true → (applyT b p).exp = some l → v ∈ l →
   ∃ xs os, decT p v = some (xs, os) ∧ (∀ x ∈ xs, lookB b x.1 = some x.2) ∧ ∀ x ∈ os, OpenOk b (applyT b p).depth (innerT p) x
 | .mk k n s us, v, l, hp, ho, hc, hx, hv => by
   have hpk := hp
   simp only [Tm.okB, Bool.and_eq_true] at hpk
   by_cases h3 : k = 3
   · subst h3
     cases hl : lookB b s with
     | none =>
       simp only [applyT, if_true, hl, Tm.closedB, Bool.and_eq_true, Bool.not_eq_true', decide_eq_false_iff_not, not_true, false_and] at hc
     | some u =>
       have hu := seven hb hl
       have e : applyT b (.mk 3 n s us) = u := by simp only [applyT, if_true, hl]
       rw [e] at hx
       have hl' := val_exp u hu.1 hu.2 l hx
       subst hl'
       obtain rfl := List.mem_singleton.1 hv
       refine ⟨[(s, v)], [], by simp [decT], ?_, ?_⟩
       · intro x hx
         obtain rfl := List.mem_singleton.1 hx
         exact hl
       · intro x hx; cases hx
   · by_cases h56 : k = 5 ∨ k = 6
     · refine ⟨[], [(.mk k n s us, v)], by simp only [decT, if_neg h3, if_pos h56], ?_, ?_⟩
       · intro x hx; cases hx
       · intro x hx'
         obtain rfl := List.mem_singleton.1 hx'
         refine ⟨ho, hc, Nat.le_refl _, ⟨l, hx, hv⟩, fun m hm => ?_⟩
         simp only [innerT, if_pos h56]
         exact hm
     · have e : applyT b (.mk k n s us) = .mk k n s (applyTL b us) := by simp only [applyT, if_neg h3]
       rw [e] at ho hc hx ⊢
       simp only [Tm.okB, Tm.closedB, Bool.and_eq_true] at ho hc
       have hin : innerT (.mk k n s us) = innerL us := by simp only [innerT, if_neg h56]
       rw [hin]
       by_cases h4 : k = 4
       · subst h4
         simp only [Tm.exp, if_true, Option.bind_eq_some_iff] at hx
         obtain ⟨ls, hls, hx⟩ := hx
         split at hx
         case isFalse => cases hx
         cases hx
         obtain ⟨c, hcm, rfl⟩ := List.mem_map.1 hv
         have hn := nreq_four hpk.1
         subst hn
         obtain ⟨xs, os, h1, h2, h3⟩ := finds_decL hb us c ls hpk.2 ho.2 hc.2 hls hcm
         refine ⟨xs, os, ?_, h2, fun x hx => (h3 x hx).more (by simp only [Tm.depth]; omega) fun _ h => h⟩
         simp only [decT, Tm.kind, Tm.num, Tm.name, Tm.args, and_self, if_true]
         rw [if_neg (by decide), if_neg (by decide)]
         exact h1
       · have hleaf := nreq_leaf hpk.1 h3 h4 (fun h => h56 (Or.inl h)) (fun h => h56 (Or.inr h))
         have : us = [] := List.length_eq_zero_iff.1 hleaf.2
         subst this
         simp only [applyTL, Tm.exp, if_neg h4, if_neg (show ¬ k = 5 from fun h => h56 (Or.inl h)), if_neg (show ¬ k = 6 from fun h => h56 (Or.inr h)), Option.some.injEq] at hx
         subst hx
         obtain rfl := List.mem_singleton.1 hv
         refine ⟨[], [], ?_, fun x hx => (by cases hx), fun x hx => (by cases hx)⟩
         simp only [decT, if_neg h3, if_neg h56, Tm.kind, Tm.num, Tm.name, Tm.args, and_self, if_true, decL]
theorem finds_decL {b : Bd} (hb : ∀ x ∈ b, x.2.flatB = true ∧ x.2.okB = true) : ∀ (ps vs : List Tm) (ls : List (List Tm)), Tm.okBL ps = true → Tm.okBL (applyTL b ps) = true → Tm.closedBL (applyTL b ps) = true → Tm.expL (applyTL b ps) = some ls → vs ∈ combos ls →
   ∃ xs os, decL ps vs = some (xs, os) ∧ (∀ x ∈ xs, lookB b x.1 = some x.2) ∧ ∀ x ∈ os, OpenOk b (Tm.depthL (applyTL b ps)) (innerL ps) x
 | [], vs, ls, _, _, _, hx, hv => by
   simp only [applyTL, Tm.expL, Option.some.injEq] at hx
   subst hx
   simp only [combos, List.mem_singleton] at hv
   subst hv
   exact ⟨[], [], rfl, fun x hx => (by cases hx), fun x hx => (by cases hx)⟩
 | p :: ps, vs, ls, hp, ho, hc, hx, hv => by
   simp only [Tm.okBL, applyTL, Tm.closedBL, Bool.and_eq_true] at hp ho hc
   simp only [applyTL, Tm.expL, Option.bind_eq_some_iff, Option.some.injEq] at hx
   obtain ⟨l, hl, ls', hls, rfl⟩ := hx
   simp only [combos, List.mem_flatMap, List.mem_map] at hv
   obtain ⟨v, hvl, vs', hvs, rfl⟩ := hv
   obtain ⟨x1, o1, a1, a2, a3⟩ := finds_dec hb p v l hp.1 ho.1 hc.1 hl hvl
   obtain ⟨x2, o2, b1, b2, b3⟩ := finds_decL hb ps vs' ls' hp.2 ho.2 hc.2 hls hvs
   refine ⟨x1 ++ x2, o1 ++ o2, by simp only [decL, a1, b1, Option.bind_some, Option.map_some], fun x hx => ?_, fun x hx => ?_⟩
   · rcases List.mem_append.1 hx with h | h
     · exact a2 x h
     · exact b2 x h
   · simp only [innerL, applyTL, Tm.depthL]
     rcases List.mem_append.1 hx with h | h
     · exact (a3 x h).more (by omega) fun n hn => List.mem_append.2 (Or.inl hn)
     · exact (b3 x h).more (by omega) fun n hn => List.mem_append.2 (Or.inr hn)
end
theorem found_of {L : List Tm} {v : Tm} (h : v ∈ L) : foundT L v = true := List.any_eq_true.2 ⟨v, h, by rw [beq_iff_eq]; exact cmp_same v⟩
theorem open_found {b c : Bd} {D : Nat} {N : List ByteArray} {x : Tm × Tm} (h : OpenOk b D N x) (hD : D ≤ 12) (hN : ∀ n ∈ N, lookB c n = lookB b n) : expandsB c x.1 x.2 = true := by
 obtain ⟨h1, h2, h3, ⟨l, h4, h5⟩, h6⟩ := h
 have e := apply_congr (b := b) (c := c) x.1 fun n hn => hN n (h6 n hn)
 unfold expandsB expOf
 rw [e, show (applyT b x.1).validB = true from nodes_of _ 1 h1 (by omega), ground_closed, h2, h4]
 exact found_of h5
theorem numT_parts {z : Int} (h : outB z = false) : (numT z).okB = true ∧ (numT z).flatB = true ∧ (numT z).depth ≤ 1 := by
 have := outB_false.1 h
 refine ⟨?_, rfl, by simp [numT, Tm.depth, Tm.depthL]⟩
 simp only [numT, Tm.okB, Tm.okBL, Bool.and_true, List.length_nil]
 unfold reqB
 simp only [if_true, Bool.and_eq_true, decide_eq_true_eq]
 exact ⟨⟨⟨this.1, this.2⟩, by rw [show (⟨#[]⟩ : ByteArray).toList = [] from toList_mk []]; rfl⟩, trivial⟩
theorem one_range {n : Int} {s : ByteArray} {m : Nat} (h : reqB 1 n s m = true) : outB n = false := by
 unfold reqB at h
 simp only [if_true, Bool.and_eq_true, decide_eq_true_eq] at h
 exact outB_false.2 ⟨h.1.1.1, h.1.1.2⟩
theorem depth_one : ∀ t : Tm, 1 ≤ t.depth
 | .mk _ _ _ _ => by simp only [Tm.depth]; omega
mutual
theorem exp_parts : ∀ (t : Tm) (l : List Tm), t.okB = true → t.closedB = true → t.exp = some l → ∀ v ∈ l, v.okB = true ∧ v.flatB = true ∧ v.depth ≤ t.depth
 | .mk k n s us, l, ho, hc, hx, v, hv => by
   have hd := depth_one (.mk k n s us)
   simp only [Tm.okB, Tm.closedB, Bool.and_eq_true, Bool.not_eq_true', decide_eq_false_iff_not] at ho hc
   simp only [Tm.exp] at hx
   by_cases h4 : k = 4
   · subst h4
     simp only [if_true, Option.bind_eq_some_iff] at hx
     obtain ⟨ls, hls, hx⟩ := hx
     split at hx
     case isFalse => cases hx
     cases hx
     obtain ⟨c, hcm, rfl⟩ := List.mem_map.1 hv
     obtain ⟨a1, a2, a3, a4⟩ := exp_partsL us ls ho.2 hc.2 hls c hcm
     have hn := nreq_four ho.1
     subst hn
     simp only [Tm.okB, Tm.flatB, Tm.depth, Bool.and_eq_true]
     exact ⟨⟨by rw [a4]; exact ho.1, a1⟩, ⟨by decide, a2⟩, by omega⟩
   · rw [if_neg h4] at hx
     by_cases h5 : k = 5
     · subst h5
       simp only [if_true, Option.bind_eq_some_iff] at hx
       obtain ⟨ls, hls, hx⟩ := hx
       split at hx
       · cases hx
       · split at hx
         case isFalse => cases hx
         cases hx
         obtain ⟨z, hz, rfl⟩ := List.mem_map.1 hv
         unfold sortI at hz
         obtain ⟨c, _, hc⟩ := resultsI_mem.1 (List.mem_mergeSort.1 hz)
         obtain ⟨b1, b2, b3⟩ := numT_parts (outB_false.2 (applyI_range hc))
         exact ⟨b1, b2, by omega⟩
     · rw [if_neg h5] at hx
       by_cases h6 : k = 6
       · subst h6
         simp only [if_true, Option.bind_eq_some_iff] at hx
         obtain ⟨ls, hls, hx⟩ := hx
         have hin := exp_intsL us ls ho.2 hc.2 hls
         have hget : ∀ i a, a ∈ intsOf (ls.getD i []) → outB a = false := by
           intro i a ha
           rw [List.getD_eq_getElem?_getD] at ha
           cases h : ls[i]? with
           | none => rw [h] at ha; cases ha
           | some e => rw [h] at ha; exact hin e (List.mem_of_getElem? h) a ha
         split at hx
         · rename_i a b ha hb
           split at hx
           case isFalse => cases hx
           cases hx
           obtain ⟨z, hz, rfl⟩ := List.mem_map.1 hv
           have r1 := outB_false.1 (hget 0 a (List.mem_of_mem_head? ha))
           have r2 := outB_false.1 (hget 1 b (List.mem_of_getLast? hb))
           unfold spanL at hz
           obtain ⟨i, hi, rfl⟩ := List.mem_map.1 hz
           have := List.mem_range.1 hi
           obtain ⟨b1, b2, b3⟩ := numT_parts (outB_false.2 (show _ ≤ a + (i : Int) ∧ a + (i : Int) ≤ _ by omega))
           exact ⟨b1, b2, by omega⟩
         · cases hx; cases hv
       · rw [if_neg h6] at hx
         cases hx
         obtain rfl := List.mem_singleton.1 hv
         have hleaf := nreq_leaf ho.1 hc.1 h4 h5 h6
         have : us = [] := List.length_eq_zero_iff.1 hleaf.2
         subst this
         simp only [Tm.okB, Tm.flatB, Bool.and_eq_true, Bool.or_eq_true, decide_eq_true_eq]
         exact ⟨ho, ⟨Or.inl hleaf.1, rfl⟩, Nat.le_refl _⟩
theorem exp_partsL : ∀ (ts : List Tm) (ls : List (List Tm)), Tm.okBL ts = true → Tm.closedBL ts = true → Tm.expL ts = some ls → ∀ c ∈ combos ls, Tm.okBL c = true ∧ Tm.flatBL c = true ∧ Tm.depthL c ≤ Tm.depthL ts ∧ c.length = ts.length
 | [], ls, _, _, hx, c, hc => by
   simp only [Tm.expL, Option.some.injEq] at hx
   subst hx
   simp only [combos, List.mem_singleton] at hc
   subst hc
   exact ⟨rfl, rfl, Nat.le_refl _, rfl⟩
 | t :: ts, ls, ho, hc, hx, c, hcm => by
   simp only [Tm.okBL, Tm.closedBL, Bool.and_eq_true] at ho hc
   simp only [Tm.expL, Option.bind_eq_some_iff, Option.some.injEq] at hx
   obtain ⟨l, hl, ls', hls, rfl⟩ := hx
   simp only [combos, List.mem_flatMap, List.mem_map] at hcm
   obtain ⟨v, hvl, vs', hvs, rfl⟩ := hcm
   obtain ⟨a1, a2, a3⟩ := exp_parts t l ho.1 hc.1 hl v hvl
   obtain ⟨b1, b2, b3, b4⟩ := exp_partsL ts ls' ho.2 hc.2 hls vs' hvs
   simp only [Tm.okBL, Tm.flatBL, Tm.depthL, Bool.and_eq_true, List.length_cons]
   exact ⟨⟨a1, b1⟩, ⟨a2, b2⟩, by omega, by omega⟩
theorem exp_intsL : ∀ (ts : List Tm) (ls : List (List Tm)), Tm.okBL ts = true → Tm.closedBL ts = true → Tm.expL ts = some ls → ∀ l ∈ ls, ∀ a ∈ intsOf l, outB a = false
 | [], ls, _, _, hx, l, hl => by
   simp only [Tm.expL, Option.some.injEq] at hx
   subst hx
   cases hl
 | t :: ts, ls, ho, hc, hx, l, hlm => by
   simp only [Tm.okBL, Tm.closedBL, Bool.and_eq_true] at ho hc
   simp only [Tm.expL, Option.bind_eq_some_iff, Option.some.injEq] at hx
   obtain ⟨l0, hl0, ls', hls, rfl⟩ := hx
   rcases List.mem_cons.1 hlm with rfl | hlm
   · intro a ha
     unfold intsOf at ha
     obtain ⟨u, hu, hua⟩ := List.mem_filterMap.1 ha
     split at hua
     · rename_i hk
       cases hua
       have h1 := (exp_parts t _ ho.1 hc.1 hl0 u hu).1
       obtain ⟨k, n, s, us⟩ := u
       simp only [Tm.kind] at hk
       subst hk
       simp only [Tm.okB, Bool.and_eq_true] at h1
       exact one_range h1.1
     · cases hua
   · exact exp_intsL ts ls' ho.2 hc.2 hls l hlm
end
def lessN (p : Tm) (n : ByteArray) : Bool := hasL (innerT p) n && !hasL (outerT p) n
def eitherN (p : Tm) (n : ByteArray) : Bool := hasL (innerT p) n || hasL (outerT p) n
def lessB (p : Tm) (b : Bd) : Bd := b.filter fun x => lessN p x.1
theorem match_finds {p v : Tm} {b : Bd} {l : List Tm} (hb : validBd b = true) (hp : p.validB = true) (hv : (applyT b p).validB = true) (hg : (applyT b p).groundB = true) (hx : (applyT b p).exp = some l) (hvl : v ∈ l) :
   matchL [p] [v] b = some b ∧ ∃ c, matchL [p] [v] (lessB p b) = some c ∧ c.all (extB b) = true := by
 have hbs := valid_spec hb
 have hbv : ∀ x ∈ b, x.2.flatB = true ∧ x.2.okB = true := fun x hx => (value_parts (hbs.2 x hx).2).symm
 have hbg : ∀ x ∈ b, x.2.Good := fun x hx => value_good (hbs.2 x hx).2
 have hd := nodes_depth _ 1 hv
 rw [ground_closed] at hg
 obtain ⟨xs, os, h1, h2, h3⟩ := finds_dec hbv p v l (valid_ok hp) (valid_ok hv) hg hx hvl
 obtain ⟨e1, e2, e3⟩ := exp_parts _ l (valid_ok hv) hg hx v hvl
 have hvv : v.valueB = true := value_of e1 e2 (by omega)
 have hdl : decL [p] [v] = some (xs, os) := by simp [decL, h1]
 have hou := dec_outer p v h1 (valid_ok hp)
 have hpp : [p].all Tm.validB = true := by simp [hp]
 have hvp : [v].all Tm.valueB = true := by simp [hvv]
 refine ⟨match_of hb hpp hvp hdl ⟨hbs.1, fun _ _ h => h, h2, fun _ h => Or.inl h⟩ (List.all_eq_true.2 fun x hx => open_found (h3 x hx) (by omega) fun _ _ => rfl), ?_⟩
 have hf := fun (f : ByteArray → Bool) (n : ByteArray) => look_filter (b := b) f n
 have hsf : ∀ f : ByteArray → Bool, Srt (b.filter fun x => f x.1) := fun f => List.Pairwise.sublist List.filter_sublist hbs.1
 have hlv : validBd (lessB p b) = true := valid_of (hsf _) fun x hx => hbs.2 x (List.mem_filter.1 hx).1
 refine ⟨b.filter fun x => eitherN p x.1, match_of hlv hpp hvp hdl ⟨hsf _, fun n u hn => ?_, fun x hx => ?_, fun n hn => ?_⟩ (List.all_eq_true.2 fun x hx => open_found (h3 x hx) (by omega) fun n hn => ?_), ?_⟩
 · unfold lessB at hn
   rw [hf (lessN p)] at hn
   rw [hf (eitherN p)]
   unfold lessN at hn
   split at hn
   · rename_i h
     rw [Bool.and_eq_true] at h
     rw [if_pos (by unfold eitherN; rw [h.1]; rfl)]
     exact hn
   · cases hn
 · rw [hf (eitherN p), if_pos]
   · exact h2 x hx
   · have : x.1 ∈ outerT p := by rw [← hou]; exact List.mem_map.2 ⟨x, hx, rfl⟩
     unfold eitherN
     rw [hasL_iff.2 this, Bool.or_true]
 · rw [hf (eitherN p)] at hn
   split at hn
   · rename_i h
     by_cases ho : n ∈ outerT p
     · rw [← hou] at ho
       obtain ⟨x, hx, e⟩ := List.mem_map.1 ho
       exact Or.inr ⟨x, hx, e⟩
     · refine Or.inl ?_
       unfold eitherN at h
       rw [hasL_no ho, Bool.or_false] at h
       unfold lessB
       rw [hf (lessN p), if_pos (by unfold lessN; rw [h, hasL_no ho]; rfl)]
       exact hn
   · exact absurd rfl hn
 · rw [hf (eitherN p), if_pos (by unfold eitherN; rw [hasL_iff.2 hn]; rfl)]
 · refine ext_of (hsf _) (fun x hx => hbg x (List.mem_filter.1 hx).1) fun n u hn => ?_
   rw [hf (eitherN p)] at hn
   split at hn
   · exact hn
   · cases hn
end Go.Proofs.YtlmdhlckgbgfhaaGreatDoor
