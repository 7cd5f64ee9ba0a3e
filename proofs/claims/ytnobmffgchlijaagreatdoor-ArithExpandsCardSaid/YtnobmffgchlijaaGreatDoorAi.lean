/- Package arith: all choices of one term from each list. -/
import Derived.Test.YtnobmffgchlijaaGreatDoorAa
import Derived.Test.YtnobmffgchlijaaGreatDoorAh
import Derived.Test.YtnobmffgchlijaaGreatDoorAc
import Derived.Test.YtnobmffgchlijaaGreatDoorRt
namespace Go.Proofs.YtnobmffgchlijaaGreatDoor
open Go.RowKit Go.Shelf
attribute [local go_sem] Oper.semAt_some

/-- A term in four cells. -/
structure TE where
  c0 : Value
  c1 : Value
  c2 : Value
  c3 : Value
  t : Tm
/-- Those that a world holds. -/
abbrev TEIn (ok : Nat → Prop) (w0 : World) : Type := { x : TE // IsTmIn ok w0 x.c0 x.c1 x.c2 x.c3 x.t }
def cellsE {ok : Nat → Prop} {w0 : World} (x : TEIn ok w0) : List Value := [x.1.c0, x.1.c1, x.1.c2, x.1.c3]
def flatE {ok : Nat → Prop} {w0 : World} (l : List (TEIn ok w0)) : List Value := l.flatMap cellsE
theorem flatE_len {ok : Nat → Prop} {w0 : World} : ∀ l : List (TEIn ok w0), (flatE l).length = l.length * 4
  | [] => rfl
  | x :: l => by
    show (cellsE x ++ flatE l).length = _
    rw [List.length_append, flatE_len l]
    simp [cellsE]; omega
theorem flatE_append {ok : Nat → Prop} {w0 : World} (l m : List (TEIn ok w0)) : flatE (l ++ m) = flatE l ++ flatE m := by simp [flatE]
theorem flatE_hold {ok : Nat → Prop} {w0 : World} : ∀ l : List (TEIn ok w0), HoldL ok w0 (flatE l) (l.map fun x => x.1.t)
  | [] => rfl
  | x :: l => ⟨_, _, _, _, flatE l, rfl, x.2, flatE_hold l⟩

/-- The rows of a slice of slices. -/
def RowsE {ok : Nat → Prop} {w0 : World} (W : World) (bL : Nat) (ls : List (List (TEIn ok w0))) : Prop :=
  ok bL ∧ ∀ i (h : i < ls.length), ∃ (a : Option Addr) (cap : Nat), W.cell? ⟨bL, i, none⟩ = some (.slice a ls[i].length cap) ∧ ls[i].length ≤ maxLen ∧
    (ls[i] ≠ [] → ∃ b off, a = some ⟨b, off, none⟩ ∧ ok b ∧ ∀ j (hj : j < ls[i].length), W.cell? ⟨b, off + j * 4, none⟩ = some ls[i][j].1.c0 ∧ W.cell? ⟨b, off + j * 4 + 1, none⟩ = some ls[i][j].1.c1 ∧ W.cell? ⟨b, off + j * 4 + 2, none⟩ = some ls[i][j].1.c2 ∧ W.cell? ⟨b, off + j * 4 + 3, none⟩ = some ls[i][j].1.c3)
/-- The blocks of a set are as they were. -/
def KeepOk (ok : Nat → Prop) (W W' : World) : Prop := ∀ b, ok b → W'.heap[b]? = W.heap[b]?
theorem KeepOk.refl (ok : Nat → Prop) (W : World) : KeepOk ok W W := fun _ _ => rfl
theorem KeepOk.trans {ok : Nat → Prop} {A B C : World} (h : KeepOk ok A B) (k : KeepOk ok B C) : KeepOk ok A C := fun b hb => (k b hb).trans (h b hb)
theorem KeepOk.grown {ok : Nat → Prop} {A W W' : World} {g : Nat} (h : KeepOk ok A W) (hg : W.grownBy W' (some g)) (hn : ¬ ok g) (hlt : ∀ b, ok b → b < W.heap.size) : KeepOk ok A W' :=
  fun b hb => (hg.block b (hlt b hb) (fun e => by cases e; exact hn hb)).trans (h b hb)
theorem RowsE.keep {ok : Nat → Prop} {w0 W W' : World} {bL : Nat} {ls : List (List (TEIn ok w0))} (h : RowsE W bL ls) (hk : KeepOk ok W W') : RowsE W' bL ls := by
  refine ⟨h.1, fun i hi => ?_⟩
  obtain ⟨a, cap, h1, h2, h3⟩ := h.2 i hi
  refine ⟨a, cap, (cell_block (hk _ h.1)).trans h1, h2, fun hne => ?_⟩
  obtain ⟨b, off, ha, hb, hj⟩ := h3 hne
  have e := fun o => cell_block (o := o) (hk b hb)
  exact ⟨b, off, ha, hb, fun j hj' => ⟨(e _).trans (hj j hj').1, (e _).trans (hj j hj').2.1, (e _).trans (hj j hj').2.2.1, (e _).trans (hj j hj').2.2.2⟩⟩

/-- The choice so far, in its own row. -/
def ChoE {ok : Nat → Prop} {w0 : World} (g d N : Nat) (W : World) (xs : List (TEIn ok w0)) : Prop := W.ownsRow 0 32 4 (.slice (some ⟨g, 0, none⟩) d N) d (flatE xs)
theorem ChoE.lt {ok : Nat → Prop} {w0 : World} {g d N : Nat} {W : World} {xs : List (TEIn ok w0)} (h : ChoE g d N W xs) : g < W.heap.size := (World.ownsRow.lt h g rfl).2
theorem ChoE.init {ok : Nat → Prop} {w0 : World} {g d N : Nat} {W : World} {xs : List (TEIn ok w0)} {x : TEIn ok w0} (hl : xs.length = d) (h : ChoE g (d + 1) N W (xs ++ [x])) : ChoE g d N W xs := by
  obtain ⟨h1, ⟨h2, _⟩ | ⟨g', cap, cur, h2, h3, h4, h5, h6, h7, h8⟩⟩ := h
  · cases h2
  · simp only [Value.slice.injEq, Option.some.injEq, Addr.mk.injEq, and_true, true_and] at h2
    obtain ⟨rfl, rfl⟩ := h2
    have hlen := flatE_len xs
    refine ⟨by rw [hlen, hl], .inr ⟨g, N, cur, rfl, h3, h4, by omega, h6, h7, ?_⟩⟩
    have := congrArg (List.take (d * 4)) h8
    rw [List.take_take, flatE_append, List.take_append_of_le_length (by rw [hlen, hl]; exact Nat.le_refl _), List.take_of_length_le (l := flatE xs) (by rw [hlen, hl]; exact Nat.le_refl _)] at this
    rw [← this]; congr 1; omega
theorem ChoE.block {ok : Nat → Prop} {w0 : World} {g d N : Nat} {W W' : World} {xs : List (TEIn ok w0)} (h : ChoE g d N W xs) (hb : W'.heap[g]? = W.heap[g]?) : ChoE g d N W' xs := by
  obtain ⟨h1, ⟨h2, _⟩ | ⟨g', cap, cur, h2, h3, h4, h5⟩⟩ := h
  · cases h2
  · simp only [Value.slice.injEq, Option.some.injEq, Addr.mk.injEq, and_true, true_and] at h2
    obtain ⟨rfl, rfl⟩ := h2
    exact ⟨h1, .inr ⟨g, N, cur, rfl, h3, hb.trans h4, h5⟩⟩

theorem combos_step {α : Type} (xs : List α) (L : List α) (r : List (List α)) (j : Nat) (hj : j < L.length) :
    (combos (L.take (j + 1) :: r)).map (xs ++ ·) = (combos (L.take j :: r)).map (xs ++ ·) ++ (combos r).map ((xs ++ [L[j]]) ++ ·) := by
  simp only [combos]
  rw [List.take_succ_eq_append_getElem hj, List.flatMap_append, List.map_append]
  congr 1
  simp [List.map_map, Function.comp_def]

theorem combos_prefix {α : Type} (done : List (List α)) (xs : List α) (L : List α) (r : List (List α)) (j : Nat) (hj : j < L.length) :
    (done ++ (combos (L.take j :: r)).map (xs ++ ·)) ++ (combos r).map ((xs ++ [L[j]]) ++ ·) <+: done ++ (combos (L :: r)).map (xs ++ ·) := by
  rw [List.append_assoc, ← combos_step xs L r j hj, List.prefix_append_right_inj]
  refine List.IsPrefix.map _ ?_
  refine ⟨(L.drop (j + 1)).flatMap fun x => (combos r).map (x :: ·), ?_⟩
  simp only [combos]
  rw [← List.flatMap_append, List.take_append_drop]
/-- What the iterator does between two rounds. -/
abbrev AbE (g : Nat) (A B : World) : Prop := A.grownBy B (some g)
/-- What a round keeps. -/
def KpE (ok : Nat → Prop) (g : Nat) (A B : World) : Prop := KeepOk ok A B ∧ A.heap.size ≤ B.heap.size ∧ B.heap[g]? = A.heap[g]?
theorem grown_alloc_some {A W : World} {g : Nat} (h : A.grownBy W (some g)) (o : Obj) : A.grownBy (W.alloc o) (some g) :=
  ⟨h.os, h.tape, h.output, Nat.le_trans h.size (by simp), fun k hk hr => (Below.heap_alloc _ _ _ (Nat.lt_of_lt_of_le hk h.size)).trans (h.block k hk hr)⟩

theorem wide_dep (k : Nat) : Fence.wide.depth.isSome = true → 1 ≤ k := fun h => by cases h

set_option maxRecDepth 100000 in
set_option maxHeartbeats 4000000 in
theorem chooseT_in (l : Nat) {ok : Nat → Prop} {w0 W0 : World} (ls : List (List (TEIn ok w0))) (_ : ls.length ≤ 1000) (bL capL g : Nat) (hg : ¬ ok g) (hlt : ∀ b, ok b → b < W0.heap.size)
    (all : List (List (TEIn ok w0))) (J : List (List (TEIn ok w0)) → World → Prop) (Jp : List PanicEntry → World → Prop) (hJ : BearsO (AbE g) J) (hL : RowsE W0 bL ls)
    (hY : ∀ m pre x W1, pre ++ [x] <+: all → J pre W1 → ChoE g ls.length ls.length W1 x → YieldAt Fence.wide m Tryz.prog l #[.slice (some ⟨g, 0, none⟩) ls.length ls.length] W1 fun e W' => (e = .returned (.bool true) ∧ J (pre ++ [x]) W' ∧ KpE ok g W1 W') ∨ (∃ ch, e = .panicked ch ∧ Jp ch W')) :
    ∀ (r : List (List (TEIn ok w0))) (d n : Nat) (xs : List (TEIn ok w0)) (done : List (List (TEIn ok w0))) (W : World), d + r.length = ls.length → ls.drop d = r → xs.length = d → done ++ (combos r).map (xs ++ ·) <+: all → J done W → KeepOk ok W0 W → W0.heap.size ≤ W.heap.size → ChoE g d ls.length W xs →
      CallsIn Fence.wide n Tryz.prog 94 #[.slice (some ⟨bL, 0, none⟩) ls.length capL, .slice (some ⟨g, 0, none⟩) d ls.length, .func (.yield l) #[] #[]] W fun e W' =>
        (e = .returned (.bool true) ∧ J (done ++ (combos r).map (xs ++ ·)) W' ∧ KeepOk ok W0 W' ∧ W.heap.size ≤ W'.heap.size ∧ ChoE g d ls.length W' xs) ∨ (∃ ch, e = .panicked ch ∧ Jp ch W') := by
  intro r
  induction r with
  | nil =>
    intro d n xs done W hd hdrop hxs hall hJ0 hk hz hc
    obtain rfl : d = ls.length := by simpa using hd
    obtain ⟨fn, tmps, assign, body, hy, hR⟩ := hY (n - 1) done xs W (by simpa [combos] using hall) hJ0 hc
    have HR := Lib.hid hR
    have HK := Lib.hid hk
    have HC := Lib.hid hc
    clear hR hk hc hY hd hdrop hJ0 hall
    refine callsIn_of_wp Tryz.func94 rfl trivial ?_ rfl
    simp only [Tryz.ntmps94, List.size_toArray, List.length_cons, List.length_nil, Nat.reduceAdd, Nat.reduceSub, Array.replicate_succ, Array.replicate_zero, List.push_toArray, List.append_toArray, List.nil_append, List.cons_append]
    gi_wp2_with (first | ((try refine ⟨wide_dep _, ?_⟩); refine HR.out.mono ?_; clear HR; rintro e W2 (⟨rfl, hJ2, hk2⟩ | ⟨ch, rfl, hp⟩)))
    · go_ret
      exact .inl ⟨rfl, by simpa [combos] using hJ2, HK.out.trans hk2.1, hk2.2.1, HC.out.block hk2.2.2⟩
    · exact ⟨rfl, .inr ⟨ch, rfl, hp⟩⟩
  | cons L r ih =>
    intro d n xs done W hd hdrop hxs hall hJ0 hk hz hc
    have HALL := Lib.hid hall
    clear hall
    have hdl : d < ls.length := by simp at hd; omega
    rw [List.drop_eq_getElem_cons hdl] at hdrop
    obtain ⟨hLd, hr⟩ := List.cons.inj hdrop
    obtain ⟨a, cap, q0, hLl, hcells⟩ := (hL.keep hk).2 d hdl
    rw [hLd] at q0 hLl hcells
    unfold maxLen at hLl
    have HCE := Lib.hid hcells
    have HIH := Lib.hid ih
    have HK := Lib.hid hk
    have HC := Lib.hid hc
    have HR := Lib.hid hr
    have HJ := Lib.hid hJ0
    have HXS := Lib.hid hxs
    have i1 : (0 : Int) ≤ (d : Int) := by omega
    have i2 : (d : Int) < (ls.length : Int) := by omega
    have hne : ((d : Int) == (ls.length : Int)) = false := by rw [beq_eq_false_iff_ne]; omega
    obtain ⟨i0, hi, hz0, hz1, hz2⟩ := info_parts (show (Tryz.prog.info? 32).map (fun i => (i.zero, i.size, i.bytes)) = some (some (.agg #[.int .u8 0, .int .i64 0, .string ⟨#[]⟩, .slice none 0 0]), 4, 56) by kernel_rfl)
    have hdr : d + 1 + r.length = ls.length := by simp at hd; omega
    clear hcells ih hk hc hr hJ0 hdrop hLd hd hY hxs
    refine callsIn_of_wp Tryz.func94 rfl trivial ?_ rfl
    simp only [Tryz.ntmps94, List.size_toArray, List.length_cons, List.length_nil, Nat.reduceAdd, Nat.reduceSub, Array.replicate_succ, Array.replicate_zero, List.push_toArray, List.append_toArray, List.nil_append, List.cons_append]
    gi_wp2
    gi_loopw [23] (fun i wr => ∃ j : Nat, j ≤ L.length ∧ i = .int .i64 j ∧ J (done ++ (combos (L.take j :: r)).map (xs ++ ·)) wr ∧ KeepOk ok W0 wr ∧ W.heap.size ≤ wr.heap.size ∧ ChoE g d ls.length wr xs) (fun i _ => L.length - (intOf i).toNat)
    case atStart => exact ⟨0, Nat.zero_le _, rfl, by simpa [combos] using HJ.out, HK.out, Nat.le_refl _, HC.out⟩
    case round =>
      obtain ⟨j, hj, rfl, hJr, hkr, hzr, hcr⟩ := hrel
      by_cases hlt' : j < L.length
      · obtain ⟨b, off, rfl, hb, hcs⟩ := HCE.out (by intro e; rw [e] at hlt'; simp at hlt')
        have hkw : KeepOk ok W wr := fun b hb => (hkr b hb).trans (HK.out b hb).symm
        obtain ⟨e0, e1, e2, e3⟩ := hcs j hlt'
        have e := fun o => cell_block (o := o) (hkw b hb)
        have g0 := (e _).trans e0
        have g1 := (e _).trans e1
        have g2 := (e _).trans e2
        have g3 := (e _).trans e3
        have hstep := combos_step xs L r j hlt'
        have hpf := (combos_prefix done xs L r j hlt').trans HALL.out
        obtain ⟨⟨⟨d0, d1, d2, d3, ⟨k', n', s', as'⟩⟩, hx⟩, hq⟩ : ∃ x, L[j] = x := ⟨_, rfl⟩
        rw [hq] at g0 g1 g2 g3 hstep hpf
        have HPF := Lib.hid hpf
        clear hpf
        have hx0 := hx
        simp only [IsTmIn] at hx
        obtain ⟨rfl, _, rfl, _, rfl, _, a', cap', rfl, _, _⟩ := hx
        simp only at g0 g1 g2 g3
        have HX := Lib.hid hx0
        have HST := Lib.hid hstep
        have HJR := Lib.hid hJr
        have HKR := Lib.hid hkr
        have HCR := Lib.hid hcr
        have hA : Below wr.heap.size wr ((wr.alloc (.cells #[.int .u8 k', .int .i64 n', .string s', .slice a' as'.length cap'] 32)).alloc (.cells #[.int .u8 k', .int .i64 n', .string s', .slice a' as'.length cap'] 32)) := ((Below.refl _ wr).alloc (Nat.le_refl _) _).alloc (by simp) _
        have HOW := Lib.hid (own_grown hcr hA)
        have HA := Lib.hid hA
        clear e0 e1 e2 e3 e hq hcs hstep hJr hkr hcr hkw hA
        have j1 : (0 : Int) ≤ (j : Int) := by omega
        have j2 : (j : Int) < (L.length : Int) := by omega
        gi_wp2_with (gi_at_builtin; refine wpListIn_append_fits _ rfl _ _ 30 rfl 0 32 i0 4 Tryz.underlying30 hi hz1 g d ls.length _ rfl HOW.out ⟨wr.heap.size + 1, 0, none⟩ 1 1 [.int .u8 k', .int .i64 n', .string s', .slice a' as'.length cap'] rfl rfl ?c1 ?c2 (by omega) ?_)
        case c2 => simp [Value.oneCell']
        intro w' hown hgr
        have hgw : wr.grownBy w' (some g) := ⟨hgr.os.trans HA.out.os, hgr.tape.trans HA.out.tape, hgr.output.trans HA.out.output, Nat.le_trans HA.out.size hgr.size, fun k hk hne => (hgr.block k (Nat.lt_of_lt_of_le hk HA.out.size) hne).trans (HA.out.block k hk)⟩
        have hlw : ∀ b, ok b → b < wr.heap.size := fun b hb => by have := hlt b hb; omega
        have hzw := hgw.size
        have HC2 := Lib.hid (HIH.out (d + 1) (n - 1) (xs ++ [⟨⟨_, _, _, _, .mk k' n' s' as'⟩, HX.out⟩]) _ w' hdr HR.out (by simp [HXS.out]) HPF.out (hJ _ _ _ HJR.out hgw) (HKR.out.grown hgw hg hlw) (by omega) (by unfold ChoE; rw [flatE_append]; exact hown))
        clear hown hgr hgw hlw
        gi_wp2_with (first | (refine ⟨trivial, wide_dep _, ?_⟩; gi_at_call 94; refine HC2.out.mono ?_; clear HC2; rintro e W3 (⟨rfl, hJ3, hk3, hz3, hc3⟩ | ⟨ch, rfl, hp⟩)))
        · go_roundw
          case rel => exact ⟨j + 1, by omega, by go_num, by rw [HST.out, ← List.append_assoc]; exact hJ3, hk3, by omega, hc3.init HXS.out⟩
          case measure => simp [intOf]; omega
        · exact ⟨rfl, .inr ⟨ch, rfl, hp⟩⟩
      · rw [List.take_of_length_le (by omega)] at hJr
        have HJR := Lib.hid hJr
        have HKR := Lib.hid hkr
        have HCR := Lib.hid hcr
        clear hJr hkr hcr
        gi_wp2
        go_ret
        exact .inl ⟨rfl, HJR.out, HKR.out, hzr, HCR.out⟩
set_option maxHeartbeats 400000 in
theorem emptyT_any (a : Option Addr) (n cap : Nat) (hn : n ≤ maxLen) (w : World) : Calls Tryz.prog 93 #[.slice a n cap] w fun e w' => e = .returned (.bool (decide (n = 0))) ∧ w = w' := by
  unfold maxLen at hn
  by_cases h : n = 0
  · subst h
    go_enter Tryz.func93, Tryz.ntmps93
    go_wp2
    go_ret
    exact ⟨rfl, rfl⟩
  · have h0 : ((n : Int) == 0) = false := by simpa using h
    have H := Lib.hid h
    clear h
    go_enter Tryz.func93, Tryz.ntmps93
    go_wp2
    go_ret
    exact ⟨by rw [decide_eq_false H.out]; rfl, rfl⟩

/-- The index of the first list without items, or -1. -/
def FirstEmpty {α : Type} (ls : List (List α)) (e : Ending) : Prop := ∃ i : Int, e = .returned (.int .i64 i) ∧ decide (0 ≤ i) = ls.any List.isEmpty

set_option maxRecDepth 100000 in
set_option maxHeartbeats 1000000 in
theorem indexEmptyT {ok : Nat → Prop} {w0 : World} (ls : List (List (TEIn ok w0))) (hN : ls.length ≤ 1000) (bL capL : Nat) (w : World) (hL : RowsE w bL ls) :
    Calls Tryz.prog 107 #[.slice (some ⟨bL, 0, none⟩) ls.length capL, .func (.func 93) #[] #[]] w fun e w' => FirstEmpty ls e ∧ w = w' := by
  have HL := Lib.hid hL; clear hL
  go_enter Tryz.func107, Tryz.ntmps107
  go_wp2
  go_loop [8] (fun i => ∃ j : Nat, j ≤ ls.length ∧ i = .int .i64 j ∧ (ls.take j).any List.isEmpty = false) (fun i => ls.length - (intOf i).toNat)
  case atStart => exact ⟨0, by omega, by go_num, rfl⟩
  case round =>
    obtain ⟨j, hj, rfl, hf⟩ := hrel
    have HF := Lib.hid hf; clear hf
    by_cases hlt : j < ls.length
    · obtain ⟨a, cap, g0, hl, _⟩ := HL.out.2 j hlt
      have HN := Lib.hid (List.take_succ_eq_append_getElem hlt)
      have HC := Lib.hid (emptyT_any a ls[j].length cap hl w)
      have i1 : (0 : Int) ≤ (j : Int) := by omega
      have i2 : (j : Int) < (ls.length : Int) := by omega
      by_cases ho : ls[j].length = 0
      · have HO := Lib.hid (show ls.any List.isEmpty = true by rw [List.any_eq_true]; exact ⟨ls[j], List.getElem_mem hlt, by simpa using ho⟩)
        rw [decide_eq_true ho] at HC
        clear ho hl
        go_wp2_with (go_at_call 93; refine HC.out.mono ?_; rintro e w' ⟨rfl, rfl⟩)
        go_ret
        exact ⟨⟨_, rfl, by rw [HO.out]; simp⟩, rfl⟩
      · have HO := Lib.hid (show (ls.take (j + 1)).any List.isEmpty = false by rw [HN.out, List.any_append, HF.out]; simpa using ho)
        rw [decide_eq_false ho] at HC
        clear ho hl
        go_wp2_with (go_at_call 93; refine HC.out.mono ?_; rintro e w' ⟨rfl, rfl⟩)
        go_round
        case rel => exact ⟨j + 1, by omega, by go_num, HO.out⟩
        case measure => simp [intOf]; omega
    · rw [List.take_of_length_le (by omega)] at HF
      go_wp2
      go_ret
      exact ⟨⟨_, rfl, by rw [HF.out]; rfl⟩, rfl⟩

set_option maxHeartbeats 400000 in
theorem containsEmptyT {ok : Nat → Prop} {w0 : World} (ls : List (List (TEIn ok w0))) (hN : ls.length ≤ 1000) (bL capL : Nat) (w : World) (hL : RowsE w bL ls) :
    Calls Tryz.prog 92 #[.slice (some ⟨bL, 0, none⟩) ls.length capL, .func (.func 93) #[] #[]] w fun e w' => e = .returned (.bool (ls.any List.isEmpty)) ∧ w = w' := by
  have HC := Lib.hid (indexEmptyT ls hN bL capL w hL); clear hL
  go_enter Tryz.func92, Tryz.ntmps92
  go_wp2_with (go_at_call 107; refine HC.out.mono ?_; clear HC; rintro e w' ⟨⟨i, rfl, hi⟩, rfl⟩)
  have HI := Lib.hid hi; clear hi
  go_ret
  exact ⟨by rw [← HI.out]; rfl, rfl⟩

theorem combos_of_empty {α : Type} {ls : List (List α)} (h : ls.any List.isEmpty = true) : combos ls = [] := by
  rw [List.any_eq_true] at h
  obtain ⟨l, hl, he⟩ := h
  rw [List.isEmpty_iff] at he
  subst he
  exact combos_nil_of_mem hl

theorem makeT (N : Nat) (hN : N ≤ 1000) : ∃ CS : Array Value, CS.size = N * 4 ∧ ∀ w : World, (Instr.makeSlice 30 (.int .i64 0) (.int .i64 (N : Int))).run Tryz.prog w = .ok (.slice (some ⟨w.heap.size, 0, none⟩) 0 N) (w.alloc (.cells CS 32)) := by
  obtain ⟨i0, hi, hz0, hz1, hz2⟩ := info_parts (show (Tryz.prog.info? 32).map (fun i => (i.zero, i.size, i.bytes)) = some (some (.agg #[.int .u8 0, .int .i64 0, .string ⟨#[]⟩, .slice none 0 0]), 4, 56) by kernel_rfl)
  refine ⟨madeCells (Value.agg #[.int .u8 0, .int .i64 0, .string ⟨#[]⟩, .slice none 0 0]).cells (N * 4), size_madeCells _ _, fun w => ?_⟩
  have := run_make (P := Tryz.prog) w _ _ i0 _ Tryz.underlying30 hi hz0 .i64 .i64 0 N (Int.le_refl _) (by omega) (by rw [hz2]; omega) (by omega)
  simpa [hz1] using this

/-- What each slot of the region ahead of the first choice stands for. -/
def FC (l bL capL N H : Nat) (CS : Array Value) : Facts := fun i v w => match i with
  | 0 | 1 => v = .slice (some ⟨bL, 0, none⟩) N capL
  | 2 => v = .int .i64 N
  | 3 => ∃ g, H ≤ g ∧ v = .slice (some ⟨g, 0, none⟩) 0 N ∧ w.heap[g]? = some (.cells CS 32 (0, 0))
  | 4 => v = .func (.yield l) #[] #[]
  | _ => True
theorem FC_grow (l bL capL N H : Nat) (CS : Array Value) (i : Nat) (v : Value) (w w' : World) (h : FC l bL capL N H CS i v w) (hb : Below w.heap.size w w') : FC l bL capL N H CS i v w' := by
  match i with
  | 0 | 1 | 2 | 4 => exact h
  | 3 =>
    obtain ⟨g, h1, h2, h3⟩ := h
    exact ⟨g, h1, h2, (hb.block g (Array.getElem?_eq_some_iff.1 h3).1).trans h3⟩
  | i + 5 => trivial

set_option maxRecDepth 100000 in
set_option maxHeartbeats 4000000 in
theorem combosT_seq {ok : Nat → Prop} {w0 : World} (ls : List (List (TEIn ok w0))) (hN : ls.length ≤ 1000) (bL capL Bx n : Nat) (w : World) (hlt : ∀ b, ok b → b < w.heap.size) (hL : RowsE w bL ls)
    (hB : w.heap[Bx]? = some (.cells #[.slice (some ⟨bL, 0, none⟩) ls.length capL] 73 (0, 0))) :
    SeqAll n Tryz.prog 91 #[.pointer (some ⟨Bx, 0, none⟩)] (fun g (_ : List (TEIn ok w0)) => #[.slice (some ⟨g, 0, none⟩) ls.length ls.length]) AbE (KpE ok)
      (fun g x W => ChoE g ls.length ls.length W x) (combos ls) w := by
  intro l J Jp W hW hJ hst hY h0
  refine callsIn_wide.2 ?_
  have hlB : Bx < w.heap.size := (Array.getElem?_eq_some_iff.1 hB).1
  have g0 : W.cell? ⟨Bx, 0, none⟩ = some (.slice (some ⟨bL, 0, none⟩) ls.length capL) := cells_at ((hW.block Bx hlB).trans hB) 0 _ rfl
  have hk0 : KeepOk ok w W := fun b hb => hW.block b (hlt b hb)
  have hBW : Bx < W.heap.size := Nat.lt_of_lt_of_le hlB hW.size
  have hlW : ∀ b, ok b → b < W.heap.size := fun b hb => Nat.lt_of_lt_of_le (hlt b hb) hW.size
  have HE := Lib.hid (containsEmptyT ls hN bL capL W (hL.keep hk0))
  have HL := Lib.hid (hL.keep hk0)
  have HJ := Lib.hid h0
  have HLT := Lib.hid hlW
  have HST := Lib.hid hst
  have HY := Lib.hid hY
  clear hL hk0 h0 hB hlt hW hst hY hlW
  cases he : ls.any List.isEmpty
  · rw [he] at HE
    clear he
    go_enter Tryz.func91, Tryz.ntmps91
    go_wp2_with (go_at_call 92; refine HE.out.mono ?_; clear HE; rintro e w' ⟨rfl, rfl⟩)
    obtain ⟨CS, hCS, hmk⟩ := makeT ls.length (by omega)
    have HCS := Lib.hid hCS
    clear hCS
    have n1 : (0 : Int) ≤ (ls.length : Int) := by omega
    refine wp_region_grow_tail (by kernel_rfl) 5 (FC l bL capL ls.length W.heap.size CS) (FC_grow _ _ _ _ _ _) (by kernel_rfl) (by kernel_rfl) (steps_to ⟨?_, ?_, ?_, ?_, ?_, trivial⟩) ?_
    · intro a wx hb hd hs ho hp
      refine ⟨rfl, ?_⟩
      have h1 : a.tmps.getD 1 undef = _ := (ho 1 (by kernel_rfl)).trans rfl
      have x0 := (hb.cell (p := ⟨Bx, 0, none⟩) hBW).trans g0
      unfold Oper.wp
      go_simp
      exact Stepped.at rfl hd (Below.refl _ _) rfl
    · intro a wx hb hd hs ho hp
      refine ⟨rfl, ?_⟩
      have h1 : a.tmps.getD 1 undef = _ := (ho 1 (by kernel_rfl)).trans rfl
      have x0 := (hb.cell (p := ⟨Bx, 0, none⟩) hBW).trans g0
      unfold Oper.wp
      go_simp
      exact Stepped.at rfl hd (Below.refl _ _) rfl
    · intro a wx hb hd hs ho hp
      refine ⟨rfl, ?_⟩
      have h6 : a.tmps.getD 6 undef = .slice (some ⟨bL, 0, none⟩) ls.length capL := facts_at hp 1 6 (by kernel_rfl)
      unfold Oper.wp
      go_simp
      exact Stepped.at rfl hd (Below.refl _ _) rfl
    · intro a wx hb hd hs ho hp
      refine ⟨rfl, ?_⟩
      have h7 : a.tmps.getD 7 undef = .int .i64 ls.length := facts_at hp 2 7 (by kernel_rfl)
      unfold Oper.wp
      go_simp
      exact Stepped.at rfl hd ((Below.refl _ _).alloc (Nat.le_refl _) _) ⟨wx.heap.size, hb.size, rfl, World.alloc_heap_new _ _⟩
    · intro a wx hb hd hs ho hp
      refine ⟨rfl, ?_⟩
      have h0 : a.tmps.getD 0 undef = _ := (ho 0 (by kernel_rfl)).trans rfl
      unfold Oper.wp
      go_simp
      exact Stepped.at rfl hd (Below.refl _ _) rfl
    intro a wx hb hd hs ho hf
    have k5 : a.tmps.getD 5 undef = .slice (some ⟨bL, 0, none⟩) ls.length capL := facts_to hf 0 5 (by decide) (by kernel_rfl)
    have k9 : a.tmps.getD 9 undef = .func (.yield l) #[] #[] := facts_to hf 4 9 (by decide) (by kernel_rfl)
    obtain ⟨g, hg1, k8, hg2⟩ : FC l bL capL ls.length W.heap.size CS 3 (a.tmps.getD 8 undef) wx := facts_to hf 3 8 (by decide) (by kernel_rfl)
    have hgl : g < wx.heap.size := (Array.getElem?_eq_some_iff.1 hg2).1
    have hkk : KeepOk ok W wx := fun b hb' => hb.block b (HLT.out b hb')
    have hcho : ChoE (ok := ok) (w0 := w0) g 0 ls.length wx [] := ⟨rfl, .inr ⟨g, ls.length, CS, rfl, Nat.zero_le _, hg2, Nat.zero_le _, by unfold maxLen; omega, HCS.out, rfl⟩⟩
    have HCH := Lib.hid (callsIn_wide.1 (chooseT_in l ls hN bL capL g (fun h => by have := HLT.out _ h; omega) (fun b hb' => Nat.lt_of_lt_of_le (HLT.out b hb') hb.size) (combos ls) (J (some g)) Jp (hJ g hg1) (HL.out.keep hkk) (fun m pre x W1 h0 h1 h2 => HY.out m g pre x W1 hg1 h0 h1 h2) ls 0 0 [] [] wx (by simp) rfl rfl (by simp) (HST.out g wx hg1 hgl hb) (KeepOk.refl _ _) (Nat.le_refl _) hcho))
    clear hkk hcho hg2 hb HL HST HY
    have hE := slots_all a.tmps 11 (hs.trans rfl)
    simp only [List.range, List.range.loop, List.map, k5, k8, k9, ho 0 (by kernel_rfl), ho 1 (by kernel_rfl)] at hE
    obtain ⟨T, D⟩ := a
    simp only at hE hd
    subst hd
    rw [hE]
    clear k5 k8 k9 hf hs ho hE
    go_wp2_with (go_at_call 94; refine HCH.out.mono ?_; clear HCH; rintro e W3 (⟨rfl, hJ3, _⟩ | ⟨ch, rfl, hp⟩))
    · go_end0
      exact .inl ⟨_, some g, rfl, by simpa using hJ3⟩
    · exact ⟨rfl, .inr ⟨ch, rfl, hp⟩⟩
  · have HE2 := Lib.hid (combos_of_empty he)
    rw [he] at HE
    clear he
    go_enter Tryz.func91, Tryz.ntmps91
    go_wp2_with (go_at_call 92; refine HE.out.mono ?_; clear HE; rintro e w' ⟨rfl, rfl⟩)
    exact bodyPost_ret (v := .tuple #[]) (by simp [results, Tryz.f91, go_sem]) rfl (.inl ⟨_, none, rfl, by rw [HE2.out]; exact HJ.out⟩)

set_option maxHeartbeats 400000 in
theorem combosT_any (a : Option Addr) (k c : Nat) (w : World) : Calls Tryz.prog 77 #[.slice a k c] w fun e w' => e = .returned (.func (.func 91) #[] #[.pointer (some ⟨w.heap.size, 0, none⟩)]) ∧ w' = w.alloc (.cells #[.slice a k c] 73) := by
  go_enter Tryz.func77, Tryz.ntmps77
  go_wp2
  go_ret
  exact ⟨rfl, rfl⟩
end Go.Proofs.YtnobmffgchlijaaGreatDoor
