/- Package arith: awake. -/
import Derived.Test.YtnobmffgchlijaaGreatDoorAv
import Derived.Test.YtnobmffgchlijaaGreatDoorSm
import Derived.Test.YtnobmffgchlijaaGreatDoorAz
namespace Go.Proofs.YtnobmffgchlijaaGreatDoor
open Go.RowKit Go.Shelf
attribute [local go_sem] Oper.semAt_some

theorem intV_two (w : World) (a b : Int) : IntV (w.alloc (.cells #[.int .i64 a, .int .i64 b] 3)) (.slice (some ⟨w.heap.size, 0, none⟩) 2 2) [a, b] := by
  have h := World.alloc_heap_new w (.cells #[.int .i64 a, .int .i64 b] 3)
  refine ⟨_, 2, rfl, by simp [maxLen], fun _ => ⟨w.heap.size, 0, rfl, by simp, fun i hi => ?_⟩⟩
  match i, hi with
  | 0, _ => exact cells_at h 0 _ rfl
  | 1, _ => exact cells_at h 1 _ rfl
theorem calc_two (s : ByteArray) (hs : s.size ≤ 1) (l : List UInt8) (hl : s = ⟨l.toArray⟩) (a b r : Int) (h : calcI l [a, b] = some r) (w : World) :
    Calls Tryz.prog 10 #[.string s, .slice (some ⟨w.heap.size, 0, none⟩) 2 2] (w.alloc (.cells #[.int .i64 a, .int .i64 b] 3)) fun e w' => e = .returned (.tuple #[.int .i64 r, .bool true]) ∧ Below w.heap.size w w' := by
  refine (calc_any s (by unfold maxLen; omega) [a, b] _ _ (intV_two w a b)).mono ?_
  rintro e w' ⟨rfl, hb⟩
  refine ⟨?_, ((Below.refl _ w).alloc (Nat.le_refl _) _).trans (hb.mono (by simp))⟩
  rw [hl, toList_of, h]; rfl

/-- What a slot stands for. -/
inductive Dz where
  | tm (t : Tm) | sl (ts : List Tm) | val (v : Value)
def Dz.holds (v : Value) (w : World) : Dz → Prop
  | .tm t => TmV w v t
  | .sl ts => SlV w v ts
  | .val u => v = u
theorem Dz.grow {d : Dz} {v : Value} {w w' : World} (h : d.holds v w) (hb : Below w.heap.size w w') : d.holds v w' := by
  cases d with
  | tm => exact TmV.grow h hb
  | sl => exact SlV.grow h hb
  | val => exact h
def FZ (ds : List Dz) : Facts := fun i v w => match ds[i]? with
  | some d => d.holds v w
  | none => True
theorem FZ_grow (ds : List Dz) (i : Nat) (v : Value) (w w' : World) (h : FZ ds i v w) (hb : Below w.heap.size w w') : FZ ds i v w' := by
  unfold FZ at *
  cases hd : ds[i]? with
  | none => trivial
  | some d => rw [hd] at h; exact Dz.grow h hb
theorem FZ_at {ds : List Dz} {i : Nat} {v : Value} {w : World} (d : Dz) (hd : ds[i]? = some d) (h : FZ ds i v w) : d.holds v w := by
  unfold FZ at h
  rw [hd] at h
  exact h
theorem FZ_mk {ds : List Dz} {i : Nat} {v : Value} {w : World} (d : Dz) (hd : ds[i]? = some d) (h : d.holds v w) : FZ ds i v w := by
  unfold FZ
  rw [hd]
  exact h
theorem wanted_by {o : Oper} {y : Nat → Option Bool} {k : Nat} {b : Bool} (hg : o.guard = some (k, b)) (hy : y k = some b) : Region.wanted o y = true := by
  unfold Region.wanted
  rw [hg]
  simp [hy]
theorem zval {ops : Array Oper} {ds : List Dz} {o : Oper} {a : Act} {w : World} (hp : HP ops (FZ ds) o a w) (j d : Nat) {u : Value} (h : fromOp ops o j d = true) (hd : ds[j]? = some (.val u)) : a.tmps.getD d undef = u := FZ_at _ hd (facts_at hp j d h)
theorem ztm {ops : Array Oper} {ds : List Dz} {o : Oper} {a : Act} {w : World} (hp : HP ops (FZ ds) o a w) (j d : Nat) {t : Tm} (h : fromOp ops o j d = true) (hd : ds[j]? = some (.tm t)) : TmV w (a.tmps.getD d undef) t := FZ_at _ hd (facts_at hp j d h)
theorem zsl {ops : Array Oper} {ds : List Dz} {o : Oper} {a : Act} {w : World} (hp : HP ops (FZ ds) o a w) (j d : Nat) {ts : List Tm} (h : fromOp ops o j d = true) (hd : ds[j]? = some (.sl ts)) : SlV w (a.tmps.getD d undef) ts := FZ_at _ hd (facts_at hp j d h)

theorem TmV.shape {w : World} {v : Value} {k n : Int} {s : ByteArray} {us : List Tm} (h : TmV w v (.mk k n s us)) : ∃ (a : Option Addr) (c : Nat), v = .agg #[.int .u8 k, .int .i64 n, .string s, .slice a us.length c] := by
  obtain ⟨c0, c1, c2, c3, rfl, h⟩ := h
  simp only [IsTm] at h
  obtain ⟨rfl, _, rfl, _, rfl, _, a, cap, rfl, _⟩ := h
  exact ⟨a, cap, rfl⟩
theorem same_lists {us : List Tm} {a a' : Option Addr} {c c' : Nat} (W : World) (h : SlV W (.slice a us.length c) us) (h' : SlV W (.slice a' us.length c') us) :
    Calls Tryz.prog 29 #[.slice a us.length c, .slice a' us.length c'] W fun e W' => e = .returned (.bool true) ∧ Below W.heap.size W W' := by
  obtain ⟨_, _, e, hl, hr⟩ := h
  injection e with e1 e2 e3
  subst e1
  obtain ⟨_, _, e, hl', hr'⟩ := h'
  injection e with e1 e2 e3
  subst e1
  refine (sameTerms_at W.heap.size us us (fun t _ => sameTerm_at W.heap.size t) _ _ c c' W (Nat.le_refl _) hl hl' hr hr').mono ?_
  rintro e w' ⟨rfl, hb⟩
  refine ⟨?_, hb⟩
  rw [(sameL_iff us us).2 rfl]
theorem two_in {ok : Nat → Prop} {w : World} {p : Nat} {j m : Int} (hp : w.heap[p]? = some (.cells #[.int .u8 1, .int .i64 j, .string ⟨#[]⟩, .slice none 0 0, .int .u8 1, .int .i64 m, .string ⟨#[]⟩, .slice none 0 0] 32 (0, 0))) (hok : ok p) (hj : I64 j) (hm : I64 m) :
    IsTmIn ok w (.int .u8 4) (.int .i64 0) (.string sF) (.slice (some ⟨p, 0, none⟩) 2 2) (tFun sF [tNum j, tNum m]) := by
  have hnum : ∀ n : Int, I64 n → IsTmIn ok w (.int .u8 1) (.int .i64 n) (.string ⟨#[]⟩) (.slice none 0 0) (tNum n) := fun n hn => by
    unfold tNum
    simp only [IsTmIn]
    exact ⟨trivial, by omega, trivial, hn, trivial, by show 0 ≤ maxLen; exact Nat.zero_le _, none, 0, rfl, by simp, fun h => absurd rfl h⟩
  unfold tFun
  simp only [IsTmIn]
  refine ⟨trivial, by omega, trivial, i64_mk (by omega), trivial, by unfold maxLen; decide, some ⟨p, 0, none⟩, 2, rfl, by simp [maxLen], fun _ => ⟨p, 0, rfl, hok, ?_⟩⟩
  simp only [IsTmsIn]
  exact ⟨_, _, _, _, cells_at hp 0 _ rfl, cells_at hp 1 _ rfl, cells_at hp 2 _ rfl, cells_at hp 3 _ rfl, hnum j hj, _, _, _, _, cells_at hp 4 _ rfl, cells_at hp 5 _ rfl, cells_at hp 6 _ rfl, cells_at hp 7 _ rfl, hnum m hm, trivial⟩
theorem t5s_take {j : Nat} (h1 : 1 ≤ j) (h2 : j ≤ 2) : t5s.take (3 * (j + 1 - 1)) = t5s.take (3 * (j - 1)) ++ [tFun sF [tNum j, tNum 2], tFun sF [tNum j, tNum 4], tFun sF [tNum j, tNum 6]] := by
  have hj : j = 1 ∨ j = 2 := by omega
  rcases hj with rfl | rfl <;> rfl

theorem ex_some {t : Tm} {ts : List Tm} {w w' : World} {e : Ending} (h : XPost t w e w') (hv : t.validB = true) (hg : t.groundB = true) (hx : t.exp = some ts) : ∃ (a : Option Addr) (c : Nat), e = .returned (.tuple #[.slice a ts.length c, .int .i64 0]) ∧ SlV w' (.slice a ts.length c) ts ∧ Below w.heap.size w w' := by
  obtain ⟨v, er, rfl, hb, ⟨h1, _⟩ | ⟨_, h2, _⟩ | ⟨_, ts', h3, rfl, h4⟩⟩ := h
  · rw [hv, hg] at h1; cases h1
  · rw [hx] at h2; cases h2
  · rw [hx] at h3; cases h3
    have hr := h4.tms
    obtain ⟨a, cap, rfl, hl, hr'⟩ := hr
    exact ⟨a, cap, rfl, ⟨a, cap, rfl, hl, hr'⟩, hb⟩
theorem ev_some {t u : Tm} {w w' : World} {e : Ending} (h : EvPost t w e w') (hu : evalT t = some u) : ∃ v, e = .returned (.tuple #[v, .bool true]) ∧ TmV w' v u ∧ Below w.heap.size w w' := by
  obtain ⟨d0, d1, d2, d3, b, rfl, hb, ⟨h0, _⟩ | ⟨u', h1, rfl, h2⟩⟩ := h
  · rw [hu] at h0; cases h0
  · rw [hu] at h1; cases h1
    exact ⟨_, rfl, ⟨_, _, _, _, rfl, h2.isTm fun b hf => hf.2⟩, hb⟩
theorem ev_none {t : Tm} {w w' : World} {e : Ending} (h : EvPost t w e w') (hu : evalT t = none) : e = .returned (.tuple #[.agg #[.int .u8 0, .int .i64 0, .string ⟨#[]⟩, .slice none 0 0], .bool false]) ∧ Below w.heap.size w w' := by
  obtain ⟨d0, d1, d2, d3, b, rfl, hb, ⟨_, rfl, rfl, rfl, rfl, rfl⟩ | ⟨u', h1, _⟩⟩ := h
  · exact ⟨rfl, hb⟩
  · rw [hu] at h1; cases h1

set_option maxRecDepth 100000 in
set_option maxHeartbeats 40000000 in
theorem awake_any (w : World) : Calls Tryz.prog 8 #[] w fun e w' => e = .returned (.bool true) ∧ Below w.heap.size w w' := by
  have C1 := Lib.hid fun w => calc_two ⟨#[47]⟩ (by decide) [47] rfl 7 (-2) (-3) (by decide) w
  have C2 := Lib.hid fun w => calc_two ⟨#[92]⟩ (by decide) [92] rfl 7 (-2) 1 (by decide) w
  have C3 := Lib.hid fun w => calc_two ⟨#[92]⟩ (by decide) [92] rfl (-7) 2 (-1) (by decide) w
  go_enter Tryz.func8, Tryz.ntmps8
  go_wp2_with (go_at_call 10; refine (C1.out w).mono ?_)
  rintro e w1 ⟨rfl, b1⟩
  have B1 := Lib.hid b1
  clear b1
  go_wp2_with (go_at_call 10; refine (C2.out w1).mono ?_)
  rintro e w2 ⟨rfl, b2⟩
  have B2 := Lib.hid (B1.out.trans (b2.mono B1.out.size))
  clear b2 B1
  go_wp2_with (go_at_call 10; refine (C3.out w2).mono ?_)
  rintro e w3 ⟨rfl, b3⟩
  have B3 := Lib.hid (B2.out.trans (b3.mono B2.out.size))
  clear b3 B2 C1 C2 C3
  -- REGIONS 6 ON
  go_wp2_with (go_at_call 22; refine (num_any 2 (i64_mk (by omega)) w3).mono ?_)
  rintro e w4 ⟨v, rfl, qA, b⟩
  obtain ⟨aA, cA, rfl⟩ := qA.shape
  have B_w4 := Lib.hid (B3.out.trans (b.mono B3.out.size))
  clear B3 b
  have TA := Lib.hid qA
  clear qA
  go_wp2_with (go_at_call 22; refine (num_any 3 (i64_mk (by omega)) w4).mono ?_)
  rintro e w5 ⟨v, rfl, qB, b⟩
  obtain ⟨aB, cB, rfl⟩ := qB.shape
  have GA_w5 := Lib.hid (TA.out.grow b)
  clear TA
  have TA := GA_w5
  clear GA_w5
  have B_w5 := Lib.hid (B_w4.out.trans (b.mono B_w4.out.size))
  clear B_w4 b
  have TB := Lib.hid qB
  clear qB
  go_wp2_with (go_at_call 26; refine (op_any sMul (by unfold maxLen; decide) _ _ _ (slV_two TA.out TB.out)).mono ?_)
  rintro e w6 ⟨v, rfl, qC, b0⟩
  obtain ⟨aC, cC, rfl⟩ := qC.shape
  have b := ((Below.refl _ w5).alloc (Nat.le_refl _) _).trans (b0.mono (by simp))
  clear b0
  clear TA TB
  have B_w6 := Lib.hid (B_w5.out.trans (b.mono B_w5.out.size))
  clear B_w5 b
  have TC := Lib.hid qC
  clear qC
  go_wp2_with (go_at_call 22; refine (num_any 1 (i64_mk (by omega)) w6).mono ?_)
  rintro e w7 ⟨v, rfl, qD, b⟩
  obtain ⟨aD, cD, rfl⟩ := qD.shape
  have GC_w7 := Lib.hid (TC.out.grow b)
  clear TC
  have TC := GC_w7
  clear GC_w7
  have B_w7 := Lib.hid (B_w6.out.trans (b.mono B_w6.out.size))
  clear B_w6 b
  have TD := Lib.hid qD
  clear qD
  go_wp2_with (go_at_call 26; refine (op_any sMinus (by unfold maxLen; decide) _ _ _ (slV_two TC.out TD.out)).mono ?_)
  rintro e w8 ⟨v, rfl, qE, b0⟩
  obtain ⟨aE, cE, rfl⟩ := qE.shape
  have b := ((Below.refl _ w7).alloc (Nat.le_refl _) _).trans (b0.mono (by simp))
  clear b0
  clear TC TD
  have B_w8 := Lib.hid (B_w7.out.trans (b.mono B_w7.out.size))
  clear B_w7 b
  have TE := Lib.hid qE
  clear qE
  go_wp2_with (go_at_call 27; refine (sym_any sA (by unfold maxLen; decide) w8).mono ?_)
  rintro e w9 ⟨v, rfl, qF, b⟩
  obtain ⟨aF, cF, rfl⟩ := qF.shape
  have GE_w9 := Lib.hid (TE.out.grow b)
  clear TE
  have TE := GE_w9
  clear GE_w9
  have B_w9 := Lib.hid (B_w8.out.trans (b.mono B_w8.out.size))
  clear B_w8 b
  have TF := Lib.hid qF
  clear qF
  go_wp2_with (go_at_call 24; refine (fun_any sF (by unfold maxLen; decide) _ _ _ (slV_two TE.out TF.out)).mono ?_)
  rintro e w10 ⟨v, rfl, qG, b0⟩
  obtain ⟨aG, cG, rfl⟩ := qG.shape
  have b := ((Below.refl _ w9).alloc (Nat.le_refl _) _).trans (b0.mono (by simp))
  clear b0
  clear TE TF
  have B_w10 := Lib.hid (B_w9.out.trans (b.mono B_w9.out.size))
  clear B_w9 b
  have TG := Lib.hid qG
  clear qG
  go_wp2_with (go_at_call 20; refine (eval_any t1 _ _ _ _ w10 TG.out.isTm (by have := t1_depth; omega)).mono ?_)
  intro e w11 he
  obtain ⟨v, rfl, qH, b⟩ := ev_some he t1_eval
  clear he
  obtain ⟨aH, cH, rfl⟩ := qH.shape
  clear TG
  have B_w11 := Lib.hid (B_w10.out.trans (b.mono B_w10.out.size))
  clear B_w10 b
  have TH := Lib.hid qH
  clear qH
  go_wp2_with (go_at_call 27; refine (sym_any sA (by unfold maxLen; decide) _).mono ?_)
  rintro e w12 ⟨v, rfl, qI, b0⟩
  obtain ⟨aI, cI, rfl⟩ := qI.shape
  have b := ((Below.refl _ w11).alloc (Nat.le_refl _) _).trans (b0.mono (by simp))
  have XH := Lib.hid ((b0.block w11.heap.size (by simp)).trans (World.alloc_heap_new w11 (.cells #[.int .u8 4, .int .i64 0, .string sF, .slice aH 2 cH] 32)))
  clear b0
  have GH_w12 := Lib.hid (TH.out.grow b)
  clear TH
  have TH := GH_w12
  clear GH_w12
  have B_w12 := Lib.hid (B_w11.out.trans (b.mono B_w11.out.size))
  clear B_w11 b
  have TI := Lib.hid qI
  clear qI
  go_wp2_with (go_at_call 22; refine (num_any 1 (i64_mk (by omega)) w12).mono ?_)
  rintro e w13 ⟨v, rfl, qJ, b⟩
  obtain ⟨aJ, cJ, rfl⟩ := qJ.shape
  have GH_w13 := Lib.hid (TH.out.grow b)
  have GI_w13 := Lib.hid (TI.out.grow b)
  clear TH
  have TH := GH_w13
  clear GH_w13
  clear TI
  have TI := GI_w13
  clear GI_w13
  have GH_w13 := Lib.hid ((b.block w11.heap.size (Array.getElem?_eq_some_iff.1 XH.out).1).trans XH.out)
  clear XH
  have XH := GH_w13
  clear GH_w13
  have B_w13 := Lib.hid (B_w12.out.trans (b.mono B_w12.out.size))
  clear B_w12 b
  have TJ := Lib.hid qJ
  clear qJ
  go_wp2_with (go_at_call 26; refine (op_any sPlus (by unfold maxLen; decide) _ _ _ (slV_two TI.out TJ.out)).mono ?_)
  rintro e w14 ⟨v, rfl, qK, b0⟩
  obtain ⟨aK, cK, rfl⟩ := qK.shape
  have b := ((Below.refl _ w13).alloc (Nat.le_refl _) _).trans (b0.mono (by simp))
  clear b0
  clear TI TJ
  have GH_w14 := Lib.hid (TH.out.grow b)
  clear TH
  have TH := GH_w14
  clear GH_w14
  have GH_w14 := Lib.hid ((b.block w11.heap.size (Array.getElem?_eq_some_iff.1 XH.out).1).trans XH.out)
  clear XH
  have XH := GH_w14
  clear GH_w14
  have B_w14 := Lib.hid (B_w13.out.trans (b.mono B_w13.out.size))
  clear B_w13 b
  have TK := Lib.hid qK
  clear qK
  go_wp2_with (go_at_call 20; refine (eval_any t2 _ _ _ _ w14 TK.out.isTm (by have := t2_depth; omega)).mono ?_)
  intro e w15 he
  obtain ⟨rfl, b⟩ := ev_none he t2_eval
  clear he
  clear TK
  have GH_w15 := Lib.hid (TH.out.grow b)
  clear TH
  have TH := GH_w15
  clear GH_w15
  have GH_w15 := Lib.hid ((b.block w11.heap.size (Array.getElem?_eq_some_iff.1 XH.out).1).trans XH.out)
  clear XH
  have XH := GH_w15
  clear GH_w15
  have B_w15 := Lib.hid (B_w14.out.trans (b.mono B_w14.out.size))
  clear B_w14 b
  go_wp2_with (go_at_call 22; refine (num_any 1 (i64_mk (by omega)) _).mono ?_)
  rintro e w16 ⟨v, rfl, qO, b0⟩
  obtain ⟨aO, cO, rfl⟩ := qO.shape
  have b := ((Below.refl _ w15).alloc (Nat.le_refl _) _).trans (b0.mono (by simp))
  clear b0
  have GH_w16 := Lib.hid (TH.out.grow b)
  clear TH
  have TH := GH_w16
  clear GH_w16
  have GH_w16 := Lib.hid ((b.block w11.heap.size (Array.getElem?_eq_some_iff.1 XH.out).1).trans XH.out)
  clear XH
  have XH := GH_w16
  clear GH_w16
  have B_w16 := Lib.hid (B_w15.out.trans (b.mono B_w15.out.size))
  clear B_w15 b
  have TO := Lib.hid qO
  clear qO
  go_wp2_with (go_at_call 22; refine (num_any 0 (i64_mk (by omega)) w16).mono ?_)
  rintro e w17 ⟨v, rfl, qP, b⟩
  obtain ⟨aP, cP, rfl⟩ := qP.shape
  have GH_w17 := Lib.hid (TH.out.grow b)
  have GO_w17 := Lib.hid (TO.out.grow b)
  clear TH
  have TH := GH_w17
  clear GH_w17
  clear TO
  have TO := GO_w17
  clear GO_w17
  have GH_w17 := Lib.hid ((b.block w11.heap.size (Array.getElem?_eq_some_iff.1 XH.out).1).trans XH.out)
  clear XH
  have XH := GH_w17
  clear GH_w17
  have B_w17 := Lib.hid (B_w16.out.trans (b.mono B_w16.out.size))
  clear B_w16 b
  have TP := Lib.hid qP
  clear qP
  go_wp2_with (go_at_call 26; refine (op_any sQuo (by unfold maxLen; decide) _ _ _ (slV_two TO.out TP.out)).mono ?_)
  rintro e w18 ⟨v, rfl, qQ, b0⟩
  obtain ⟨aQ, cQ, rfl⟩ := qQ.shape
  have b := ((Below.refl _ w17).alloc (Nat.le_refl _) _).trans (b0.mono (by simp))
  clear b0
  clear TO TP
  have GH_w18 := Lib.hid (TH.out.grow b)
  clear TH
  have TH := GH_w18
  clear GH_w18
  have GH_w18 := Lib.hid ((b.block w11.heap.size (Array.getElem?_eq_some_iff.1 XH.out).1).trans XH.out)
  clear XH
  have XH := GH_w18
  clear GH_w18
  have B_w18 := Lib.hid (B_w17.out.trans (b.mono B_w17.out.size))
  clear B_w17 b
  have TQ := Lib.hid qQ
  clear qQ
  go_wp2_with (go_at_call 20; refine (eval_any t3 _ _ _ _ w18 TQ.out.isTm (by have := t3_depth; omega)).mono ?_)
  intro e w19 he
  obtain ⟨rfl, b⟩ := ev_none he t3_eval
  clear he
  clear TQ
  have GH_w19 := Lib.hid (TH.out.grow b)
  clear TH
  have TH := GH_w19
  clear GH_w19
  have GH_w19 := Lib.hid ((b.block w11.heap.size (Array.getElem?_eq_some_iff.1 XH.out).1).trans XH.out)
  clear XH
  have XH := GH_w19
  clear GH_w19
  have B_w19 := Lib.hid (B_w18.out.trans (b.mono B_w18.out.size))
  clear B_w18 b
  go_wp2_with (go_at_call 22; refine (num_any 2147483647 (i64_mk (by omega)) _).mono ?_)
  rintro e w20 ⟨v, rfl, qS, b0⟩
  obtain ⟨aS, cS, rfl⟩ := qS.shape
  have b := ((Below.refl _ w19).alloc (Nat.le_refl _) _).trans (b0.mono (by simp))
  clear b0
  have GH_w20 := Lib.hid (TH.out.grow b)
  clear TH
  have TH := GH_w20
  clear GH_w20
  have GH_w20 := Lib.hid ((b.block w11.heap.size (Array.getElem?_eq_some_iff.1 XH.out).1).trans XH.out)
  clear XH
  have XH := GH_w20
  clear GH_w20
  have B_w20 := Lib.hid (B_w19.out.trans (b.mono B_w19.out.size))
  clear B_w19 b
  have TS := Lib.hid qS
  clear qS
  go_wp2_with (go_at_call 22; refine (num_any 1 (i64_mk (by omega)) w20).mono ?_)
  rintro e w21 ⟨v, rfl, qU, b⟩
  obtain ⟨aU, cU, rfl⟩ := qU.shape
  have GH_w21 := Lib.hid (TH.out.grow b)
  have GS_w21 := Lib.hid (TS.out.grow b)
  clear TH
  have TH := GH_w21
  clear GH_w21
  clear TS
  have TS := GS_w21
  clear GS_w21
  have GH_w21 := Lib.hid ((b.block w11.heap.size (Array.getElem?_eq_some_iff.1 XH.out).1).trans XH.out)
  clear XH
  have XH := GH_w21
  clear GH_w21
  have B_w21 := Lib.hid (B_w20.out.trans (b.mono B_w20.out.size))
  clear B_w20 b
  have TU := Lib.hid qU
  clear qU
  go_wp2_with (go_at_call 26; refine (op_any sPlus (by unfold maxLen; decide) _ _ _ (slV_two TS.out TU.out)).mono ?_)
  rintro e w22 ⟨v, rfl, qV, b0⟩
  obtain ⟨aV, cV, rfl⟩ := qV.shape
  have b := ((Below.refl _ w21).alloc (Nat.le_refl _) _).trans (b0.mono (by simp))
  clear b0
  clear TS TU
  have GH_w22 := Lib.hid (TH.out.grow b)
  clear TH
  have TH := GH_w22
  clear GH_w22
  have GH_w22 := Lib.hid ((b.block w11.heap.size (Array.getElem?_eq_some_iff.1 XH.out).1).trans XH.out)
  clear XH
  have XH := GH_w22
  clear GH_w22
  have B_w22 := Lib.hid (B_w21.out.trans (b.mono B_w21.out.size))
  clear B_w21 b
  have TV := Lib.hid qV
  clear qV
  go_wp2_with (go_at_call 20; refine (eval_any t4 _ _ _ _ w22 TV.out.isTm (by have := t4_depth; omega)).mono ?_)
  intro e w23 he
  obtain ⟨rfl, b⟩ := ev_none he t4_eval
  clear he
  clear TV
  have GH_w23 := Lib.hid (TH.out.grow b)
  clear TH
  have TH := GH_w23
  clear GH_w23
  have GH_w23 := Lib.hid ((b.block w11.heap.size (Array.getElem?_eq_some_iff.1 XH.out).1).trans XH.out)
  clear XH
  have XH := GH_w23
  clear GH_w23
  have B_w23 := Lib.hid (B_w22.out.trans (b.mono B_w22.out.size))
  clear B_w22 b
  -- REGION 10
  go_wp2_with (fail)
  obtain ⟨WX, hWX⟩ : ∃ WX, (w23.alloc (.cells #[.int .u8 0, .int .i64 0, .string ⟨#[]⟩, .slice none 0 0] 32)) = WX := ⟨_, rfl⟩
  have hbWX : Below w23.heap.size w23 WX := by rw [← hWX]; exact (Below.refl _ _).alloc (Nat.le_refl _) _
  have TH0 := TH.out.grow hbWX
  have XBOX := (hbWX.block w11.heap.size (Array.getElem?_eq_some_iff.1 XH.out).1).trans XH.out
  have LT := (Array.getElem?_eq_some_iff.1 XBOX).1
  have BW := Lib.hid (B_w23.out.trans (hbWX.mono B_w23.out.size))
  rw [hWX]
  clear hWX hbWX TH XH B_w23
  refine wp_region_grow (by kernel_rfl) (FZ [.val (.bool true), .val (.bool false), .val (.bool false), .tm (tFun sF [tNum 5, tSym sA]), .tm (tNum 5), .tm (tSym sA), .sl [tNum 5, tSym sA], .tm (tFun sF [tNum 5, tSym sA]), .val (.bool true), .val (.bool false), .val (.bool false), .val (.bool false), .val (.bool false), .val (.bool false), .val (.bool false), .val (.bool false), .val (.bool false), .val (.bool false), .val (.bool false), .val (.bool false)]) (FZ_grow _) (by kernel_rfl) (steps_all ⟨?_, ?_, ?_, ?_, ?_, ?_, ?_, ?_, ?_, ?_, ?_, ?_, ?_, ?_, ?_, ?_, ?_, ?_, ?_, ?_, trivial⟩) ?_
  · intro a wx hb hd hs ho hp
    refine ⟨rfl, ?_⟩
    have h0 : a.tmps.getD 8 undef = .bool true := (ho 8 (by kernel_rfl)).trans rfl
    unfold Oper.wp
    go_simp
    exact Stepped.at rfl hd (Below.refl _ _) (FZ_mk (.val (.bool true)) rfl rfl)
  · intro a wx hb hd hs ho hp
    refine ⟨rfl, ?_⟩
    have h0 : a.tmps.getD 98 undef = .bool true := zval hp 0 98 (by kernel_rfl) rfl
    unfold Oper.wp
    go_simp
    exact Stepped.at rfl hd (Below.refl _ _) (FZ_mk (.val (.bool false)) rfl rfl)
  · intro a wx hb hd hs ho hp
    refine ⟨rfl, ?_⟩
    have h0 : a.tmps.getD 99 undef = .bool false := zval hp 1 99 (by kernel_rfl) rfl
    unfold Oper.wp
    go_simp
    exact Stepped.at rfl hd (Below.refl _ _) (FZ_mk (.val (.bool false)) rfl rfl)
  · intro a wx hb hd hs ho hp
    refine ⟨wanted_by rfl (yielded_at (k := 2) (d := 100) (by kernel_rfl) (zval hp 2 100 (by kernel_rfl) rfl)), ?_⟩
    have q : a.tmps.getD 7 undef = .pointer (some ⟨w11.heap.size, 0, none⟩) := (ho 7 (by kernel_rfl)).trans rfl
    have hx := (hb.block w11.heap.size LT).trans XBOX
    have x0 := cells_at hx 0 _ rfl
    have x1 := cells_at hx 1 _ rfl
    have x2 := cells_at hx 2 _ rfl
    have x3 := cells_at hx 3 _ rfl
    unfold Oper.wp
    go_simp
    exact Stepped.at rfl hd (Below.refl _ _) (FZ_mk (.tm (tFun sF [tNum 5, tSym sA])) rfl (TH0.grow hb))
  · intro a wx hb hd hs ho hp
    refine ⟨wanted_by rfl (yielded_at (k := 2) (d := 100) (by kernel_rfl) (zval hp 2 100 (by kernel_rfl) rfl)), ?_⟩
    unfold Oper.wp
    go_simp
    refine (num_any 5 (i64_mk (by omega)) _).mono ?_
    rintro e w2 ⟨v, rfl, h1, h2⟩
    exact Stepped.at rfl hd h2 (FZ_mk (.tm (tNum 5)) rfl h1)
  · intro a wx hb hd hs ho hp
    refine ⟨wanted_by rfl (yielded_at (k := 2) (d := 100) (by kernel_rfl) (zval hp 2 100 (by kernel_rfl) rfl)), ?_⟩
    unfold Oper.wp
    go_simp
    refine (sym_any sA (by unfold maxLen; decide) _).mono ?_
    rintro e w2 ⟨v, rfl, h1, h2⟩
    exact Stepped.at rfl hd h2 (FZ_mk (.tm (tSym sA)) rfl h1)
  · intro a wx hb hd hs ho hp
    refine ⟨wanted_by rfl (yielded_at (k := 2) (d := 100) (by kernel_rfl) (zval hp 2 100 (by kernel_rfl) rfl)), ?_⟩
    have q1 := ztm hp 4 102 (t := tNum 5) (by kernel_rfl) rfl
    have q2 := ztm hp 5 103 (t := tSym sA) (by kernel_rfl) rfl
    obtain ⟨a1, c1, e1⟩ := q1.shape
    obtain ⟨a2, c2, e2⟩ := q2.shape
    rw [e1] at q1
    rw [e2] at q2
    have s1 := qslot_of (hs.trans (show _ = 198 from rfl)) (by decide) e1
    have s2 := qslot_of (hs.trans (show _ = 198 from rfl)) (by decide) e2
    have HS := Lib.hid (slV_two q1 q2)
    clear q1 q2
    unfold Oper.wp
    go_simp
    exact Stepped.at (v := .slice (some ⟨wx.heap.size, 0, none⟩) 2 2) rfl hd ((Below.refl _ _).alloc (Nat.le_refl _) _) (FZ_mk (.sl [tNum 5, tSym sA]) rfl HS.out)
  · intro a wx hb hd hs ho hp
    refine ⟨wanted_by rfl (yielded_at (k := 2) (d := 100) (by kernel_rfl) (zval hp 2 100 (by kernel_rfl) rfl)), ?_⟩
    have q := zsl hp 6 104 (ts := [tNum 5, tSym sA]) (by kernel_rfl) rfl
    obtain ⟨v, hv⟩ : ∃ v, a.tmps.getD 104 undef = v := ⟨_, rfl⟩
    rw [hv] at q
    have HQ := Lib.hid q
    clear q
    unfold Oper.wp
    go_simp
    refine (fun_any sF (by unfold maxLen; decide) _ _ _ HQ.out).mono ?_
    rintro e w2 ⟨v, rfl, h1, h2⟩
    exact Stepped.at rfl hd h2 (FZ_mk (.tm (tFun sF [tNum 5, tSym sA])) rfl h1)
  · intro a wx hb hd hs ho hp
    refine ⟨wanted_by rfl (yielded_at (k := 2) (d := 100) (by kernel_rfl) (zval hp 2 100 (by kernel_rfl) rfl)), ?_⟩
    have q1 := ztm hp 3 101 (t := tFun sF [tNum 5, tSym sA]) (by kernel_rfl) rfl
    have q2 := ztm hp 7 105 (t := tFun sF [tNum 5, tSym sA]) (by kernel_rfl) rfl
    obtain ⟨a1, c1, e1⟩ := q1.shape
    obtain ⟨a2, c2, e2⟩ := q2.shape
    rw [e1] at q1
    rw [e2] at q2
    have HS := Lib.hid (sameTerm_any _ _ _ _ _ _ _ _ _ _ wx q1.isTm q2.isTm)
    clear q1 q2
    unfold Oper.wp
    go_simp
    refine HS.out.mono ?_
    rintro e w2 ⟨rfl, h2⟩
    exact Stepped.at rfl hd h2 (FZ_mk (.val (.bool true)) rfl (by rw [(sameB_iff _ _).2 rfl]; rfl))
  · intro a wx hb hd hs ho hp
    refine ⟨wanted_by rfl (yielded_at (k := 2) (d := 100) (by kernel_rfl) (zval hp 2 100 (by kernel_rfl) rfl)), ?_⟩
    have h0 : a.tmps.getD 106 undef = .bool true := zval hp 8 106 (by kernel_rfl) rfl
    unfold Oper.wp
    go_simp
    exact Stepped.at rfl hd (Below.refl _ _) (FZ_mk (.val (.bool false)) rfl rfl)
  · intro a wx hb hd hs ho hp
    refine ⟨rfl, ?_⟩
    have h0 : a.tmps.getD 100 undef = .bool false := zval hp 2 100 (by kernel_rfl) rfl
    have h1 : a.tmps.getD 107 undef = .bool false := zval hp 9 107 (by kernel_rfl) rfl
    unfold Oper.wp
    go_simp
    exact Stepped.at rfl hd (Below.refl _ _) (FZ_mk (.val (.bool false)) rfl rfl)
  · intro a wx hb hd hs ho hp
    refine ⟨rfl, ?_⟩
    have h0 : a.tmps.getD 108 undef = .bool false := zval hp 10 108 (by kernel_rfl) rfl
    unfold Oper.wp
    go_simp
    exact Stepped.at rfl hd (Below.refl _ _) (FZ_mk (.val (.bool false)) rfl rfl)
  · intro a wx hb hd hs ho hp
    refine ⟨wanted_by rfl (yielded_at (k := 11) (d := 109) (by kernel_rfl) (zval hp 11 109 (by kernel_rfl) rfl)), ?_⟩
    have h0 : a.tmps.getD 10 undef = .bool false := (ho 10 (by kernel_rfl)).trans rfl
    unfold Oper.wp
    go_simp
    exact Stepped.at rfl hd (Below.refl _ _) (FZ_mk (.val (.bool false)) rfl rfl)
  · intro a wx hb hd hs ho hp
    refine ⟨rfl, ?_⟩
    have h0 : a.tmps.getD 109 undef = .bool false := zval hp 11 109 (by kernel_rfl) rfl
    have h1 : a.tmps.getD 110 undef = .bool false := zval hp 12 110 (by kernel_rfl) rfl
    unfold Oper.wp
    go_simp
    exact Stepped.at rfl hd (Below.refl _ _) (FZ_mk (.val (.bool false)) rfl rfl)
  · intro a wx hb hd hs ho hp
    refine ⟨rfl, ?_⟩
    have h0 : a.tmps.getD 111 undef = .bool false := zval hp 13 111 (by kernel_rfl) rfl
    unfold Oper.wp
    go_simp
    exact Stepped.at rfl hd (Below.refl _ _) (FZ_mk (.val (.bool false)) rfl rfl)
  · intro a wx hb hd hs ho hp
    refine ⟨wanted_by rfl (yielded_at (k := 14) (d := 112) (by kernel_rfl) (zval hp 14 112 (by kernel_rfl) rfl)), ?_⟩
    have h0 : a.tmps.getD 12 undef = .bool false := (ho 12 (by kernel_rfl)).trans rfl
    unfold Oper.wp
    go_simp
    exact Stepped.at rfl hd (Below.refl _ _) (FZ_mk (.val (.bool false)) rfl rfl)
  · intro a wx hb hd hs ho hp
    refine ⟨rfl, ?_⟩
    have h0 : a.tmps.getD 112 undef = .bool false := zval hp 14 112 (by kernel_rfl) rfl
    have h1 : a.tmps.getD 113 undef = .bool false := zval hp 15 113 (by kernel_rfl) rfl
    unfold Oper.wp
    go_simp
    exact Stepped.at rfl hd (Below.refl _ _) (FZ_mk (.val (.bool false)) rfl rfl)
  · intro a wx hb hd hs ho hp
    refine ⟨rfl, ?_⟩
    have h0 : a.tmps.getD 114 undef = .bool false := zval hp 16 114 (by kernel_rfl) rfl
    unfold Oper.wp
    go_simp
    exact Stepped.at rfl hd (Below.refl _ _) (FZ_mk (.val (.bool false)) rfl rfl)
  · intro a wx hb hd hs ho hp
    refine ⟨wanted_by rfl (yielded_at (k := 17) (d := 115) (by kernel_rfl) (zval hp 17 115 (by kernel_rfl) rfl)), ?_⟩
    have h0 : a.tmps.getD 14 undef = .bool false := (ho 14 (by kernel_rfl)).trans rfl
    unfold Oper.wp
    go_simp
    exact Stepped.at rfl hd (Below.refl _ _) (FZ_mk (.val (.bool false)) rfl rfl)
  · intro a wx hb hd hs ho hp
    refine ⟨rfl, ?_⟩
    have h0 : a.tmps.getD 115 undef = .bool false := zval hp 17 115 (by kernel_rfl) rfl
    have h1 : a.tmps.getD 116 undef = .bool false := zval hp 18 116 (by kernel_rfl) rfl
    unfold Oper.wp
    go_simp
    exact Stepped.at rfl hd (Below.refl _ _) (FZ_mk (.val (.bool false)) rfl rfl)
  intro a wx hJ
  have k117 : a.tmps.getD 117 undef = .bool false := FZ_at (.val (.bool false)) rfl (hJ.at_end 19 117 (by kernel_rfl))
  have hd := hJ.defers
  have hs := hJ.tmps
  have BX := Lib.hid (BW.out.trans (hJ.below.mono BW.out.size))
  clear hJ BW TH0 XBOX LT
  obtain ⟨T, D⟩ := a
  simp only at hd hs k117
  subst hd
  have hE2 := slots_all T 198 (hs.trans rfl)
  simp only [List.range, List.range.loop, List.map, k117] at hE2
  rw [hE2]
  clear hE2 k117 hs
  -- REGIONS 12 TO 14
  go_wp2_with (go_at_call 22; refine (num_any 1 (i64_mk (by omega)) wx).mono ?_)
  rintro e w41 ⟨v, rfl, qA1, b⟩
  obtain ⟨aA1, cA1, rfl⟩ := qA1.shape
  have B_w41 := Lib.hid (BX.out.trans (b.mono BX.out.size))
  clear BX b
  have TA1 := Lib.hid qA1
  clear qA1
  go_wp2_with (go_at_call 22; refine (num_any 2 (i64_mk (by omega)) w41).mono ?_)
  rintro e w42 ⟨v, rfl, qA2, b⟩
  obtain ⟨aA2, cA2, rfl⟩ := qA2.shape
  have GA1_w42 := Lib.hid (TA1.out.grow b)
  clear TA1
  have TA1 := GA1_w42
  clear GA1_w42
  have B_w42 := Lib.hid (B_w41.out.trans (b.mono B_w41.out.size))
  clear B_w41 b
  have TA2 := Lib.hid qA2
  clear qA2
  go_wp2_with (go_at_call 25; refine (lspan_any w42 TA1.out TA2.out).mono ?_)
  rintro e w43 ⟨v, rfl, qA3, b⟩
  obtain ⟨aA3, cA3, rfl⟩ := qA3.shape
  clear TA1 TA2
  have B_w43 := Lib.hid (B_w42.out.trans (b.mono B_w42.out.size))
  clear B_w42 b
  have TA3 := Lib.hid qA3
  clear qA3
  go_wp2_with (go_at_call 22; refine (num_any 1 (i64_mk (by omega)) w43).mono ?_)
  rintro e w44 ⟨v, rfl, qA4, b⟩
  obtain ⟨aA4, cA4, rfl⟩ := qA4.shape
  have GA3_w44 := Lib.hid (TA3.out.grow b)
  clear TA3
  have TA3 := GA3_w44
  clear GA3_w44
  have B_w44 := Lib.hid (B_w43.out.trans (b.mono B_w43.out.size))
  clear B_w43 b
  have TA4 := Lib.hid qA4
  clear qA4
  go_wp2_with (go_at_call 22; refine (num_any 3 (i64_mk (by omega)) w44).mono ?_)
  rintro e w45 ⟨v, rfl, qA5, b⟩
  obtain ⟨aA5, cA5, rfl⟩ := qA5.shape
  have GA3_w45 := Lib.hid (TA3.out.grow b)
  have GA4_w45 := Lib.hid (TA4.out.grow b)
  clear TA3
  have TA3 := GA3_w45
  clear GA3_w45
  clear TA4
  have TA4 := GA4_w45
  clear GA4_w45
  have B_w45 := Lib.hid (B_w44.out.trans (b.mono B_w44.out.size))
  clear B_w44 b
  have TA5 := Lib.hid qA5
  clear qA5
  go_wp2_with (go_at_call 25; refine (lspan_any w45 TA4.out TA5.out).mono ?_)
  rintro e w46 ⟨v, rfl, qA6, b⟩
  obtain ⟨aA6, cA6, rfl⟩ := qA6.shape
  clear TA4 TA5
  have GA3_w46 := Lib.hid (TA3.out.grow b)
  clear TA3
  have TA3 := GA3_w46
  clear GA3_w46
  have B_w46 := Lib.hid (B_w45.out.trans (b.mono B_w45.out.size))
  clear B_w45 b
  have TA6 := Lib.hid qA6
  clear qA6
  go_wp2_with (go_at_call 22; refine (num_any 2 (i64_mk (by omega)) w46).mono ?_)
  rintro e w47 ⟨v, rfl, qA7, b⟩
  obtain ⟨aA7, cA7, rfl⟩ := qA7.shape
  have GA3_w47 := Lib.hid (TA3.out.grow b)
  have GA6_w47 := Lib.hid (TA6.out.grow b)
  clear TA3
  have TA3 := GA3_w47
  clear GA3_w47
  clear TA6
  have TA6 := GA6_w47
  clear GA6_w47
  have B_w47 := Lib.hid (B_w46.out.trans (b.mono B_w46.out.size))
  clear B_w46 b
  have TA7 := Lib.hid qA7
  clear qA7
  go_wp2_with (go_at_call 26; refine (op_any sMul (by unfold maxLen; decide) _ _ _ (slV_two TA6.out TA7.out)).mono ?_)
  rintro e w48 ⟨v, rfl, qA8, b0⟩
  obtain ⟨aA8, cA8, rfl⟩ := qA8.shape
  have b := ((Below.refl _ w47).alloc (Nat.le_refl _) _).trans (b0.mono (by simp))
  clear b0
  clear TA6 TA7
  have GA3_w48 := Lib.hid (TA3.out.grow b)
  clear TA3
  have TA3 := GA3_w48
  clear GA3_w48
  have B_w48 := Lib.hid (B_w47.out.trans (b.mono B_w47.out.size))
  clear B_w47 b
  have TA8 := Lib.hid qA8
  clear qA8
  go_wp2_with (go_at_call 24; refine (fun_any sF (by unfold maxLen; decide) _ _ _ (slV_two TA3.out TA8.out)).mono ?_)
  rintro e w49 ⟨v, rfl, qA9, b0⟩
  obtain ⟨aA9, cA9, rfl⟩ := qA9.shape
  have b := ((Below.refl _ w48).alloc (Nat.le_refl _) _).trans (b0.mono (by simp))
  clear b0
  clear TA3 TA8
  have B_w49 := Lib.hid (B_w48.out.trans (b.mono B_w48.out.size))
  clear B_w48 b
  have TA9 := Lib.hid qA9
  clear qA9
  go_wp2_with (go_at_call 16; refine (expandApi_any t5 _ _ _ _ w49 TA9.out.isTm (by have := t5_depth; omega)).mono ?_)
  intro e w50 he
  obtain ⟨aE5, cE5, rfl, qE5, b⟩ := ex_some he t5_valid t5_ground t5_exp
  clear he TA9
  have B_w50 := Lib.hid (B_w49.out.trans (b.mono B_w49.out.size))
  clear B_w49 b
  have TE5 := Lib.hid qE5
  clear qE5
  go_wp2_with (go_at_call 22; refine (num_any 3 (i64_mk (by omega)) w50).mono ?_)
  rintro e w51 ⟨v, rfl, qC1, b⟩
  obtain ⟨aC1, cC1, rfl⟩ := qC1.shape
  have GE5_w51 := Lib.hid (TE5.out.grow b)
  clear TE5
  have TE5 := GE5_w51
  clear GE5_w51
  have B_w51 := Lib.hid (B_w50.out.trans (b.mono B_w50.out.size))
  clear B_w50 b
  have TC1 := Lib.hid qC1
  clear qC1
  go_wp2_with (go_at_call 22; refine (num_any 1 (i64_mk (by omega)) w51).mono ?_)
  rintro e w52 ⟨v, rfl, qC2, b⟩
  obtain ⟨aC2, cC2, rfl⟩ := qC2.shape
  have GE5_w52 := Lib.hid (TE5.out.grow b)
  have GC1_w52 := Lib.hid (TC1.out.grow b)
  clear TE5
  have TE5 := GE5_w52
  clear GE5_w52
  clear TC1
  have TC1 := GC1_w52
  clear GC1_w52
  have B_w52 := Lib.hid (B_w51.out.trans (b.mono B_w51.out.size))
  clear B_w51 b
  have TC2 := Lib.hid qC2
  clear qC2
  go_wp2_with (go_at_call 25; refine (lspan_any w52 TC1.out TC2.out).mono ?_)
  rintro e w53 ⟨v, rfl, qC3, b⟩
  obtain ⟨aC3, cC3, rfl⟩ := qC3.shape
  clear TC1 TC2
  have GE5_w53 := Lib.hid (TE5.out.grow b)
  clear TE5
  have TE5 := GE5_w53
  clear GE5_w53
  have B_w53 := Lib.hid (B_w52.out.trans (b.mono B_w52.out.size))
  clear B_w52 b
  have TC3 := Lib.hid qC3
  clear qC3
  go_wp2_with (go_at_call 16; refine (expandApi_any t6 _ _ _ _ w53 TC3.out.isTm (by have := t6_depth; omega)).mono ?_)
  intro e w54 he
  obtain ⟨aE6, cE6, rfl, qE6, b⟩ := ex_some he t6_valid t6_ground t6_exp
  clear he TC3
  have GE5_w54 := Lib.hid (TE5.out.grow b)
  clear TE5
  have TE5 := GE5_w54
  clear GE5_w54
  have B_w54 := Lib.hid (B_w53.out.trans (b.mono B_w53.out.size))
  clear B_w53 b
  have TE6 := Lib.hid qE6
  clear qE6
  go_wp2_with (go_at_call 22; refine (num_any 1 (i64_mk (by omega)) w54).mono ?_)
  rintro e w55 ⟨v, rfl, qD1, b⟩
  obtain ⟨aD1, cD1, rfl⟩ := qD1.shape
  have GE5_w55 := Lib.hid (TE5.out.grow b)
  have GE6_w55 := Lib.hid (TE6.out.grow b)
  clear TE5
  have TE5 := GE5_w55
  clear GE5_w55
  clear TE6
  have TE6 := GE6_w55
  clear GE6_w55
  have B_w55 := Lib.hid (B_w54.out.trans (b.mono B_w54.out.size))
  clear B_w54 b
  have TD1 := Lib.hid qD1
  clear qD1
  go_wp2_with (go_at_call 22; refine (num_any 2 (i64_mk (by omega)) w55).mono ?_)
  rintro e w56 ⟨v, rfl, qD2, b⟩
  obtain ⟨aD2, cD2, rfl⟩ := qD2.shape
  have GE5_w56 := Lib.hid (TE5.out.grow b)
  have GE6_w56 := Lib.hid (TE6.out.grow b)
  have GD1_w56 := Lib.hid (TD1.out.grow b)
  clear TE5
  have TE5 := GE5_w56
  clear GE5_w56
  clear TE6
  have TE6 := GE6_w56
  clear GE6_w56
  clear TD1
  have TD1 := GD1_w56
  clear GD1_w56
  have B_w56 := Lib.hid (B_w55.out.trans (b.mono B_w55.out.size))
  clear B_w55 b
  have TD2 := Lib.hid qD2
  clear qD2
  go_wp2_with (go_at_call 25; refine (lspan_any w56 TD1.out TD2.out).mono ?_)
  rintro e w57 ⟨v, rfl, qD3, b⟩
  obtain ⟨aD3, cD3, rfl⟩ := qD3.shape
  clear TD1 TD2
  have GE5_w57 := Lib.hid (TE5.out.grow b)
  have GE6_w57 := Lib.hid (TE6.out.grow b)
  clear TE5
  have TE5 := GE5_w57
  clear GE5_w57
  clear TE6
  have TE6 := GE6_w57
  clear GE6_w57
  have B_w57 := Lib.hid (B_w56.out.trans (b.mono B_w56.out.size))
  clear B_w56 b
  have TD3 := Lib.hid qD3
  clear qD3
  go_wp2_with (go_at_call 22; refine (num_any 3 (i64_mk (by omega)) w57).mono ?_)
  rintro e w58 ⟨v, rfl, qD4, b⟩
  obtain ⟨aD4, cD4, rfl⟩ := qD4.shape
  have GE5_w58 := Lib.hid (TE5.out.grow b)
  have GE6_w58 := Lib.hid (TE6.out.grow b)
  have GD3_w58 := Lib.hid (TD3.out.grow b)
  clear TE5
  have TE5 := GE5_w58
  clear GE5_w58
  clear TE6
  have TE6 := GE6_w58
  clear GE6_w58
  clear TD3
  have TD3 := GD3_w58
  clear GD3_w58
  have B_w58 := Lib.hid (B_w57.out.trans (b.mono B_w57.out.size))
  clear B_w57 b
  have TD4 := Lib.hid qD4
  clear qD4
  go_wp2_with (go_at_call 22; refine (num_any 4 (i64_mk (by omega)) w58).mono ?_)
  rintro e w59 ⟨v, rfl, qD5, b⟩
  obtain ⟨aD5, cD5, rfl⟩ := qD5.shape
  have GE5_w59 := Lib.hid (TE5.out.grow b)
  have GE6_w59 := Lib.hid (TE6.out.grow b)
  have GD3_w59 := Lib.hid (TD3.out.grow b)
  have GD4_w59 := Lib.hid (TD4.out.grow b)
  clear TE5
  have TE5 := GE5_w59
  clear GE5_w59
  clear TE6
  have TE6 := GE6_w59
  clear GE6_w59
  clear TD3
  have TD3 := GD3_w59
  clear GD3_w59
  clear TD4
  have TD4 := GD4_w59
  clear GD4_w59
  have B_w59 := Lib.hid (B_w58.out.trans (b.mono B_w58.out.size))
  clear B_w58 b
  have TD5 := Lib.hid qD5
  clear qD5
  go_wp2_with (go_at_call 25; refine (lspan_any w59 TD4.out TD5.out).mono ?_)
  rintro e w60 ⟨v, rfl, qD6, b⟩
  obtain ⟨aD6, cD6, rfl⟩ := qD6.shape
  clear TD4 TD5
  have GE5_w60 := Lib.hid (TE5.out.grow b)
  have GE6_w60 := Lib.hid (TE6.out.grow b)
  have GD3_w60 := Lib.hid (TD3.out.grow b)
  clear TE5
  have TE5 := GE5_w60
  clear GE5_w60
  clear TE6
  have TE6 := GE6_w60
  clear GE6_w60
  clear TD3
  have TD3 := GD3_w60
  clear GD3_w60
  have B_w60 := Lib.hid (B_w59.out.trans (b.mono B_w59.out.size))
  clear B_w59 b
  have TD6 := Lib.hid qD6
  clear qD6
  go_wp2_with (go_at_call 25; refine (lspan_any w60 TD3.out TD6.out).mono ?_)
  rintro e w61 ⟨v, rfl, qD7, b⟩
  obtain ⟨aD7, cD7, rfl⟩ := qD7.shape
  clear TD3 TD6
  have GE5_w61 := Lib.hid (TE5.out.grow b)
  have GE6_w61 := Lib.hid (TE6.out.grow b)
  clear TE5
  have TE5 := GE5_w61
  clear GE5_w61
  clear TE6
  have TE6 := GE6_w61
  clear GE6_w61
  have B_w61 := Lib.hid (B_w60.out.trans (b.mono B_w60.out.size))
  clear B_w60 b
  have TD7 := Lib.hid qD7
  clear qD7
  go_wp2_with (go_at_call 16; refine (expandApi_any t7 _ _ _ _ w61 TD7.out.isTm (by have := t7_depth; omega)).mono ?_)
  intro e w62 he
  obtain ⟨aE7, cE7, rfl, qE7, b⟩ := ex_some he t7_valid t7_ground t7_exp
  clear he TD7
  have GE5_w62 := Lib.hid (TE5.out.grow b)
  have GE6_w62 := Lib.hid (TE6.out.grow b)
  clear TE5
  have TE5 := GE5_w62
  clear GE5_w62
  clear TE6
  have TE6 := GE6_w62
  clear GE6_w62
  have B_w62 := Lib.hid (B_w61.out.trans (b.mono B_w61.out.size))
  clear B_w61 b
  have TE7 := Lib.hid qE7
  clear qE7
  go_wp2
  obtain ⟨i0, hi, hz0, hz1, hz2⟩ := info_parts info_term
  go_loopw [21, 22] (fun v i wl => ∃ j : Nat, 1 ≤ j ∧ j ≤ 3 ∧ i = .int .i64 j ∧ Vals none w62.heap.size wl v (t5s.take (3 * (j - 1))) ∧ Below w62.heap.size w62 wl) (fun _ i _ => 3 - (intOf i).toNat)
  case atStart => exact ⟨1, by omega, by omega, rfl, Vals.nil _ _ _, Below.refl _ _⟩
  case round =>
    obtain ⟨j, hj1, hj3, rfl, hV, hBl⟩ := hrel
    have HBL := Lib.hid hBl
    by_cases h3 : j = 3
    · subst h3
      have HV := Lib.hid hV
      clear hV hBl
      have hq : t5s.take (3 * (3 - 1)) = t5s := rfl
      rw [hq] at HV
      obtain ⟨a9, c9, rfl, hl9, hr9⟩ := HV.out.tms
      have G5 := Lib.hid (TE5.out.grow HBL.out)
      have G7 := Lib.hid (TE7.out.grow HBL.out)
      have H9 := Lib.hid (show SlV wr (.slice a9 t5s.length c9) t5s from ⟨a9, c9, rfl, hl9, hr9⟩)
      have BZ := Lib.hid (B_w62.out.trans (HBL.out.mono B_w62.out.size))
      clear hl9 hr9 HV
      go_wp2_with (go_at_call 29; refine (same_lists wr G5.out H9.out).mono ?_)
      rintro e x1 ⟨rfl, bx1⟩
      have G7' := Lib.hid (G7.out.grow bx1)
      have BZ1 := Lib.hid (BZ.out.trans (bx1.mono BZ.out.size))
      clear bx1 G7 BZ
      go_wp2_with (go_at_call 30; refine (lints_any 1 4 (by omega) (by omega) (by omega) x1).mono ?_)
      rintro e x2 ⟨v, rfl, hv, bx2⟩
      have hsp4 : (spanL 1 4).map numT = [tNum 1, tNum 2, tNum 3, tNum 4] := rfl
      rw [hsp4] at hv
      obtain ⟨a8, c8, rfl, hl8, hr8⟩ := hv.tms
      have G8 := Lib.hid (show SlV x2 (.slice a8 4 c8) [tNum 1, tNum 2, tNum 3, tNum 4] from ⟨a8, c8, rfl, hl8, hr8⟩)
      have G7x := Lib.hid (G7'.out.grow bx2)
      have BZ2 := Lib.hid (BZ1.out.trans (bx2.mono BZ1.out.size))
      clear bx2 BZ1 hv hl8 hr8 G7'
      go_wp2_with (go_at_call 29; refine (same_lists (us := [tNum 1, tNum 2, tNum 3, tNum 4]) x2 G7x.out G8.out).mono ?_)
      rintro e x3 ⟨rfl, bx3⟩
      have BZ3 := Lib.hid (BZ2.out.trans (bx3.mono BZ2.out.size))
      clear bx3 BZ2
      go_wp2
      go_ret
      exact ⟨rfl, BZ3.out⟩
    · obtain ⟨xs, hO, hH, _⟩ := hV
      have HO := Lib.hid hO
      have HH := Lib.hid hH
      clear hO hH hBl
      have hj2 : j ≤ 2 := by omega
      have HT := Lib.hid (t5s_take hj1 hj2)
      have hts : (t5s.take (3 * (j - 1))).length ≤ 6 := by simp [t5s]; omega
      obtain ⟨TS, hTS⟩ : ∃ TS, t5s.take (3 * (j - 1)) = TS := ⟨_, rfl⟩
      rw [hTS] at HO HH HT hts
      clear hTS
      have i1 : (j : Int) < 3 := by omega
      have hjI : I64 (j : Int) := i64_nat hj2
      have R0 := Lib.hid (Below.refl wr.heap.size wr)
      go_wp2_with (go_at_call 22; refine (num_x j wr).mono ?_)
      rintro e v1 ⟨rfl, b⟩
      have R_v1 := Lib.hid (R0.out.trans (b.mono R0.out.size))
      clear R0
      go_wp2_with (go_at_call 22; refine (num_x 2 v1).mono ?_)
      rintro e v2 ⟨rfl, b⟩
      have R_v2 := Lib.hid (R_v1.out.trans (b.mono R_v1.out.size))
      clear R_v1
      go_wp2_with (go_at_call 24; refine (fun_x _ _ _ _ _).mono ?_)
      rintro e v3 ⟨rfl, b0⟩
      have b := ((Below.refl _ v2).alloc (Nat.le_refl _) (.cells #[.int .u8 1, .int .i64 j, .string ⟨#[]⟩, .slice none 0 0, .int .u8 1, .int .i64 2, .string ⟨#[]⟩, .slice none 0 0] 32)).trans (b0.mono (by simp))
      have N1 := Lib.hid ((b0.block v2.heap.size (by simp)).trans (World.alloc_heap_new v2 (.cells #[.int .u8 1, .int .i64 j, .string ⟨#[]⟩, .slice none 0 0, .int .u8 1, .int .i64 2, .string ⟨#[]⟩, .slice none 0 0] 32)))
      have Z1 := R_v2.out.size
      clear b0
      have R_v3 := Lib.hid (R_v2.out.trans (b.mono R_v2.out.size))
      clear R_v2
      have X1 := N1
      clear N1
      go_wp2_with (go_at_call 22; refine (num_x j v3).mono ?_)
      rintro e v4 ⟨rfl, b⟩
      have Y1 := Lib.hid ((b.block _ (Array.getElem?_eq_some_iff.1 X1.out).1).trans X1.out)
      clear X1
      have X1 := Y1
      clear Y1
      have R_v4 := Lib.hid (R_v3.out.trans (b.mono R_v3.out.size))
      clear R_v3
      go_wp2_with (go_at_call 22; refine (num_x 4 v4).mono ?_)
      rintro e v5 ⟨rfl, b⟩
      have Y1 := Lib.hid ((b.block _ (Array.getElem?_eq_some_iff.1 X1.out).1).trans X1.out)
      clear X1
      have X1 := Y1
      clear Y1
      have R_v5 := Lib.hid (R_v4.out.trans (b.mono R_v4.out.size))
      clear R_v4
      go_wp2_with (go_at_call 24; refine (fun_x _ _ _ _ _).mono ?_)
      rintro e v6 ⟨rfl, b0⟩
      have b := ((Below.refl _ v5).alloc (Nat.le_refl _) (.cells #[.int .u8 1, .int .i64 j, .string ⟨#[]⟩, .slice none 0 0, .int .u8 1, .int .i64 4, .string ⟨#[]⟩, .slice none 0 0] 32)).trans (b0.mono (by simp))
      have N2 := Lib.hid ((b0.block v5.heap.size (by simp)).trans (World.alloc_heap_new v5 (.cells #[.int .u8 1, .int .i64 j, .string ⟨#[]⟩, .slice none 0 0, .int .u8 1, .int .i64 4, .string ⟨#[]⟩, .slice none 0 0] 32)))
      have Z2 := R_v5.out.size
      clear b0
      have Y1 := Lib.hid ((b.block _ (Array.getElem?_eq_some_iff.1 X1.out).1).trans X1.out)
      clear X1
      have X1 := Y1
      clear Y1
      have R_v6 := Lib.hid (R_v5.out.trans (b.mono R_v5.out.size))
      clear R_v5
      have X2 := N2
      clear N2
      go_wp2_with (go_at_call 22; refine (num_x j v6).mono ?_)
      rintro e v7 ⟨rfl, b⟩
      have Y1 := Lib.hid ((b.block _ (Array.getElem?_eq_some_iff.1 X1.out).1).trans X1.out)
      clear X1
      have X1 := Y1
      clear Y1
      have Y2 := Lib.hid ((b.block _ (Array.getElem?_eq_some_iff.1 X2.out).1).trans X2.out)
      clear X2
      have X2 := Y2
      clear Y2
      have R_v7 := Lib.hid (R_v6.out.trans (b.mono R_v6.out.size))
      clear R_v6
      go_wp2_with (go_at_call 22; refine (num_x 6 v7).mono ?_)
      rintro e v8 ⟨rfl, b⟩
      have Y1 := Lib.hid ((b.block _ (Array.getElem?_eq_some_iff.1 X1.out).1).trans X1.out)
      clear X1
      have X1 := Y1
      clear Y1
      have Y2 := Lib.hid ((b.block _ (Array.getElem?_eq_some_iff.1 X2.out).1).trans X2.out)
      clear X2
      have X2 := Y2
      clear Y2
      have R_v8 := Lib.hid (R_v7.out.trans (b.mono R_v7.out.size))
      clear R_v7
      go_wp2_with (go_at_call 24; refine (fun_x _ _ _ _ _).mono ?_)
      rintro e v9 ⟨rfl, b0⟩
      have b := ((Below.refl _ v8).alloc (Nat.le_refl _) (.cells #[.int .u8 1, .int .i64 j, .string ⟨#[]⟩, .slice none 0 0, .int .u8 1, .int .i64 6, .string ⟨#[]⟩, .slice none 0 0] 32)).trans (b0.mono (by simp))
      have N3 := Lib.hid ((b0.block v8.heap.size (by simp)).trans (World.alloc_heap_new v8 (.cells #[.int .u8 1, .int .i64 j, .string ⟨#[]⟩, .slice none 0 0, .int .u8 1, .int .i64 6, .string ⟨#[]⟩, .slice none 0 0] 32)))
      have Z3 := R_v8.out.size
      clear b0
      have Y1 := Lib.hid ((b.block _ (Array.getElem?_eq_some_iff.1 X1.out).1).trans X1.out)
      clear X1
      have X1 := Y1
      clear Y1
      have Y2 := Lib.hid ((b.block _ (Array.getElem?_eq_some_iff.1 X2.out).1).trans X2.out)
      clear X2
      have X2 := Y2
      clear Y2
      have R_v9 := Lib.hid (R_v8.out.trans (b.mono R_v8.out.size))
      clear R_v8
      have X3 := N3
      clear N3
      go_wp2_with (at_builtin; refine wpList_append_own_at _ rfl _ _ 30 rfl w62.heap.size 32 i0 _ 4 56 Tryz.underlying30 hi hz0 hz1 hz2 rfl (by decide) u21 TS.length xs rfl ?c0 _ 3 3 [.int .u8 4, .int .i64 0, .string sF, .slice (some ⟨v2.heap.size, 0, none⟩) 2 2, .int .u8 4, .int .i64 0, .string sF, .slice (some ⟨v5.heap.size, 0, none⟩) 2 2, .int .u8 4, .int .i64 0, .string sF, .slice (some ⟨v8.heap.size, 0, none⟩) 2 2] rfl rfl ?c1 ?c2 ?c3 ?c4 ?c5 ?_)
      case c2 => simp [Value.oneCell']
      case c3 => unfold maxLen; omega
      case c4 => omega
      case c5 => have := HBL.out.size; have := R_v9.out.size; simp; omega
      case c0 => exact own_grown HO.out (R_v9.out.alloc R_v9.out.size _)
      case c1 =>
        intro jj u hu
        have h := cells_at (World.alloc_heap_new v9 (.cells #[.int .u8 4, .int .i64 0, .string sF, .slice (some ⟨v2.heap.size, 0, none⟩) 2 2, .int .u8 4, .int .i64 0, .string sF, .slice (some ⟨v5.heap.size, 0, none⟩) 2 2, .int .u8 4, .int .i64 0, .string sF, .slice (some ⟨v8.heap.size, 0, none⟩) 2 2] 32)) jj u (by simpa using hu)
        have hadd : (⟨v9.heap.size, 0, none⟩ : Addr).add jj = ⟨v9.heap.size, jj, none⟩ := by unfold Addr.add; split <;> simp_all
        rw [hadd]; exact h
      intro v' w' hown' hgrow _ hat
      have hBA := R_v9.out.alloc R_v9.out.size (.cells #[.int .u8 4, .int .i64 0, .string sF, .slice (some ⟨v2.heap.size, 0, none⟩) 2 2, .int .u8 4, .int .i64 0, .string sF, .slice (some ⟨v5.heap.size, 0, none⟩) 2 2, .int .u8 4, .int .i64 0, .string sF, .slice (some ⟨v8.heap.size, 0, none⟩) 2 2] 32)
      have zA := hBA.size
      have zL := HBL.out.size
      have zR := R_v9.out.size
      have hfar : ∀ b, wr.heap.size ≤ b → b < v9.heap.size → Far none w62.heap.size (v9.alloc (.cells #[.int .u8 4, .int .i64 0, .string sF, .slice (some ⟨v2.heap.size, 0, none⟩) 2 2, .int .u8 4, .int .i64 0, .string sF, .slice (some ⟨v5.heap.size, 0, none⟩) 2 2, .int .u8 4, .int .i64 0, .string sF, .slice (some ⟨v8.heap.size, 0, none⟩) 2 2] 32)) u21 b := fun b h1 h2 =>
        ⟨by omega, by simp; omega, fun e => by have := (HO.out.lt b e).2; omega, by simp⟩
      have l1 := (Array.getElem?_eq_some_iff.1 X1.out).1
      have l2 := (Array.getElem?_eq_some_iff.1 X2.out).1
      have l3 := (Array.getElem?_eq_some_iff.1 X3.out).1
      have k1 := (Below.heap_alloc v9 (.cells #[.int .u8 4, .int .i64 0, .string sF, .slice (some ⟨v2.heap.size, 0, none⟩) 2 2, .int .u8 4, .int .i64 0, .string sF, .slice (some ⟨v5.heap.size, 0, none⟩) 2 2, .int .u8 4, .int .i64 0, .string sF, .slice (some ⟨v8.heap.size, 0, none⟩) 2 2] 32) _ l1).trans X1.out
      have k2 := (Below.heap_alloc v9 (.cells #[.int .u8 4, .int .i64 0, .string sF, .slice (some ⟨v2.heap.size, 0, none⟩) 2 2, .int .u8 4, .int .i64 0, .string sF, .slice (some ⟨v5.heap.size, 0, none⟩) 2 2, .int .u8 4, .int .i64 0, .string sF, .slice (some ⟨v8.heap.size, 0, none⟩) 2 2] 32) _ l2).trans X2.out
      have k3 := (Below.heap_alloc v9 (.cells #[.int .u8 4, .int .i64 0, .string sF, .slice (some ⟨v2.heap.size, 0, none⟩) 2 2, .int .u8 4, .int .i64 0, .string sF, .slice (some ⟨v5.heap.size, 0, none⟩) 2 2, .int .u8 4, .int .i64 0, .string sF, .slice (some ⟨v8.heap.size, 0, none⟩) 2 2] 32) _ l3).trans X3.out
      have hV' : Vals none w62.heap.size w' v' (TS ++ [tFun sF [tNum j, tNum 2], tFun sF [tNum j, tNum 4], tFun sF [tNum j, tNum 6]]) := Vals.app (ts := TS) (us := [tFun sF [tNum j, tNum 2], tFun sF [tNum j, tNum 4], tFun sF [tNum j, tNum 6]])
        (HH.out.keep fun b hf => ⟨⟨hf.1, Nat.lt_of_lt_of_le hf.2.1 zA, hf.2.2⟩, hBA.block b hf.2.1⟩) (fun g e => by cases e)
        ⟨_, _, _, _, _, rfl, two_in k1 (hfar _ Z1 l1) hjI (i64_mk (by omega)), _, _, _, _, _, rfl, two_in k2 (hfar _ Z2 l2) hjI (i64_mk (by omega)), _, _, _, _, _, rfl, two_in k3 (hfar _ Z3 l3) hjI (i64_mk (by omega)), rfl⟩ hown' hgrow (by rw [World.size_alloc]; exact hat)
      have hBw : Below w62.heap.size w62 w' := (HBL.out.trans (hBA.mono zL)).grown hgrow (by omega) (fun k e => (HO.out.lt k e).1)
      have HF := Lib.hid (show ∃ j' : Nat, 1 ≤ j' ∧ j' ≤ 3 ∧ (Value.int .i64 ((j : Int) + 1)) = .int .i64 j' ∧ Vals none w62.heap.size w' v' (t5s.take (3 * (j' - 1))) ∧ Below w62.heap.size w62 w' from ⟨j + 1, by omega, by omega, by simp, by rw [HT.out]; exact hV', hBw⟩)
      clear hown' hgrow hat hBA hV' hBw HH HO HT X1 X2 X3 k1 k2 k3 hfar
      go_wp2
      go_roundw
      case rel => exact HF.out
      case measure => simp [intOf]; omega
end Go.Proofs.YtnobmffgchlijaaGreatDoor
