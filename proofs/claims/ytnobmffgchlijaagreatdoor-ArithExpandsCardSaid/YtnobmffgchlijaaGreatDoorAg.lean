/- Package arith: hasInterval, limit, integer, integers. -/
import Derived.Test.YtnobmffgchlijaaGreatDoorAc
import Derived.WalkLawsBesides
import Derived.RangeFuncRecord
namespace Go.Proofs.YtnobmffgchlijaaGreatDoor
open Go.RowKit

mutual
def Tm.spanB : Tm → Bool
  | .mk k _ _ args => decide (k = 6) || Tm.spanBL args
def Tm.spanBL : List Tm → Bool
  | [] => false
  | t :: ts => t.spanB || Tm.spanBL ts
end
theorem Tm.spanBL_take {ts : List Tm} {j : Nat} (hj : j < ts.length) : Tm.spanBL (ts.take (j + 1)) = (Tm.spanBL (ts.take j) || ts[j].spanB) := by
  induction ts generalizing j with
  | nil => simp at hj
  | cons t ts ih =>
    cases j with
    | zero => simp [Tm.spanBL]
    | succ j => simp [Tm.spanBL, ih (by simpa using hj), Bool.or_assoc]
theorem Tm.spanBL_mem : ∀ {ts : List Tm} {t : Tm}, t ∈ ts → t.spanB = true → Tm.spanBL ts = true
  | a :: ts, t, h, ht => by
    simp only [Tm.spanBL]
    rcases List.mem_cons.1 h with rfl | h
    · rw [ht]; rfl
    · rw [Tm.spanBL_mem h ht, Bool.or_true]

def HiAt (B : Nat) (t : Tm) : Prop := ∀ (c0 c1 c2 c3 : Value) (W : World), IsTm B W c0 c1 c2 c3 t → B ≤ W.heap.size →
  Calls Tryz.prog 46 #[.agg #[c0, c1, c2, c3]] W fun e W' => e = .returned (.bool t.spanB) ∧ Below W.heap.size W W'

/-- The index of the first term with an interval, or -1. -/
def FirstSpan (us : List Tm) (e : Ending) : Prop := ∃ i : Int, e = .returned (.int .i64 i) ∧ decide (0 ≤ i) = Tm.spanBL us

set_option maxRecDepth 100000 in
set_option maxHeartbeats 2000000 in
theorem indexSpan (B : Nat) (us : List Tm) (ih : ∀ t ∈ us, HiAt B t) (a : Option Addr) (cap : Nat) (W : World) (hB : B ≤ W.heap.size) (hl : us.length ≤ maxLen)
    (hargs : us ≠ [] → ∃ b off, a = some ⟨b, off, none⟩ ∧ b < B ∧ IsTms B W b off us) :
    Calls Tryz.prog 85 #[.slice a us.length cap, .func (.func 46) #[] #[]] W fun e W' => FirstSpan us e ∧ Below W.heap.size W W' := by
  unfold maxLen at hl
  have HA := Lib.hid hargs; clear hargs
  have IH := Lib.hid ih; clear ih
  go_enter Tryz.func85, Tryz.ntmps85
  go_wp2_with fail
  go_loopw [8] (fun i wr => ∃ j : Nat, j ≤ us.length ∧ i = .int .i64 j ∧ Tm.spanBL (us.take j) = false ∧ Below W.heap.size W wr) (fun i _ => us.length - (intOf i).toNat)
  case atStart => exact ⟨0, by omega, by go_num, rfl, Below.refl _ _⟩
  case round =>
    obtain ⟨j, hj, rfl, hf, hBr⟩ := hrel
    have HF := Lib.hid hf; clear hf
    by_cases hlt : j < us.length
    · obtain ⟨b, off, rfl, hb, hI⟩ := HA.out (by intro e; rw [e] at hlt; simp at hlt)
      obtain ⟨c0, c1, c2, c3, e0, e1, e2, e3, hc⟩ := hI.at j hlt
      have g0 := (hBr.cell (p := ⟨b, off + j * 4, none⟩) (by show b < _; omega)).trans e0
      have g1 := (hBr.cell (p := ⟨b, off + j * 4 + 1, none⟩) (by show b < _; omega)).trans e1
      have g2 := (hBr.cell (p := ⟨b, off + j * 4 + 2, none⟩) (by show b < _; omega)).trans e2
      have g3 := (hBr.cell (p := ⟨b, off + j * 4 + 3, none⟩) (by show b < _; omega)).trans e3
      have hsz := hBr.size
      have HS := Lib.hid (IH.out us[j] (List.getElem_mem hlt) c0 c1 c2 c3 wr (hc.below (hBr.mono hB)) (by omega))
      have HT := Lib.hid (Tm.spanBL_take hlt)
      have HM := Lib.hid (fun h => Tm.spanBL_mem (List.getElem_mem hlt) h)
      have HB := Lib.hid hBr
      clear e0 e1 e2 e3 hc hBr
      have i1 : (0 : Int) ≤ (j : Int) := by omega
      have i2 : (j : Int) < (us.length : Int) := by omega
      cases hs : us[j].spanB
      all_goals
        rw [hs] at HS
        have HH := Lib.hid hs
        clear hs
        go_wp2_with (go_at_call 46; refine HS.out.mono ?_; clear HS; rintro e W2 ⟨rfl, hB2⟩)
        first
          | (go_ret
             exact ⟨⟨_, rfl, by rw [HM.out HH.out]; simp⟩, HB.out.trans (hB2.mono HB.out.size)⟩)
          | (go_roundw
             case rel => exact ⟨j + 1, by omega, by go_num, by rw [HT.out, HF.out, HH.out]; rfl, HB.out.trans (hB2.mono HB.out.size)⟩
             case measure => simp [intOf]; omega)
    · rw [List.take_of_length_le (by omega)] at HF
      have HB := Lib.hid hBr
      clear hBr
      go_wp2
      go_ret
      exact ⟨⟨_, rfl, by rw [HF.out]; rfl⟩, HB.out⟩

set_option maxHeartbeats 400000 in
theorem containsSpan (B : Nat) (us : List Tm) (ih : ∀ t ∈ us, HiAt B t) (a : Option Addr) (cap : Nat) (W : World) (hB : B ≤ W.heap.size) (hl : us.length ≤ maxLen)
    (hargs : us ≠ [] → ∃ b off, a = some ⟨b, off, none⟩ ∧ b < B ∧ IsTms B W b off us) :
    Calls Tryz.prog 71 #[.slice a us.length cap, .func (.func 46) #[] #[]] W fun e W' => e = .returned (.bool (Tm.spanBL us)) ∧ Below W.heap.size W W' := by
  have HC := Lib.hid (indexSpan B us ih a cap W hB hl hargs); clear hargs ih hl
  go_enter Tryz.func71, Tryz.ntmps71
  go_wp2_with (go_at_call 85; refine HC.out.mono ?_; clear HC; rintro e w' ⟨⟨i, rfl, hi⟩, hb⟩)
  have HI := Lib.hid hi; clear hi
  go_ret
  exact ⟨by rw [← HI.out]; rfl, hb⟩

set_option maxRecDepth 100000 in
set_option maxHeartbeats 2000000 in
theorem hasInterval_at (B : Nat) (t : Tm) : HiAt B t := by
  induction t using Tm.ind with
  | h k n s us ih =>
    intro c0 c1 c2 c3 W h hB
    simp only [IsTm] at h
    obtain ⟨rfl, hk, rfl, hn, rfl, hs, a, cap, rfl, hl, hargs⟩ := h
    have hB1 : Below W.heap.size W (W.alloc (.cells #[.int .u8 k, .int .i64 n, .string s, .slice a us.length cap] 32)) := (Below.refl _ W).alloc (Nat.le_refl _) _
    have HS := Lib.hid (containsSpan B us ih a cap _ (Nat.le_trans hB hB1.size) hl (fun hne => by obtain ⟨b, off, h1, h2, h3⟩ := hargs hne; exact ⟨b, off, h1, h2, h3.below (hB1.mono hB) h2⟩))
    have HT := Lib.hid (show (Tm.mk k n s us).spanB = (decide (k = 6) || Tm.spanBL us) by simp only [Tm.spanB])
    have HB := Lib.hid hB1
    clear hB1 hargs ih hl hs hn
    by_cases h6 : k = 6
    · subst h6
      go_enter Tryz.func46, Tryz.ntmps46
      go_wp2
      go_ret
      exact ⟨by rw [HT.out]; rfl, HB.out⟩
    · have hk6 : (k == 6) = false := by simpa using h6
      have HK := Lib.hid h6
      clear h6
      go_enter Tryz.func46, Tryz.ntmps46
      go_wp2_with (go_at_call 71; refine HS.out.mono ?_; clear HS; rintro e W2 ⟨rfl, hB2⟩)
      have hBf := HB.out.trans (hB2.mono HB.out.size)
      go_ret
      exact ⟨by rw [HT.out, decide_eq_false HK.out]; rfl, hBf⟩
theorem hasInterval_any (t : Tm) (c0 c1 c2 c3 : Value) (W : World) (h : IsTm W.heap.size W c0 c1 c2 c3 t) :
    Calls Tryz.prog 46 #[.agg #[c0, c1, c2, c3]] W fun e W' => e = .returned (.bool t.spanB) ∧ Below W.heap.size W W' := hasInterval_at W.heap.size t c0 c1 c2 c3 W h (Nat.le_refl _)

/-- What is thrown at too many expansions. -/
def boom : List PanicEntry := [{ v := .iface 35 (.int .i64 5), recovered := false }]

set_option maxHeartbeats 1000000 in
theorem limit_ok (n : Int) (h : n ≤ 1000) (w : World) : Calls Tryz.prog 78 #[.int .i64 n] w fun e w' => e = .returned (.tuple #[]) ∧ w = w' := by
  go_enter Tryz.func78, Tryz.ntmps78
  go_wp2
  go_end0
  exact ⟨rfl, rfl⟩
set_option maxHeartbeats 1000000 in
theorem limit_far (n : Int) (h : 1000 < n) (w : World) : Calls Tryz.prog 78 #[.int .i64 n] w fun e w' => e = .panicked boom ∧ w = w' := by
  go_enter Tryz.func78, Tryz.ntmps78
  go_wp2
  exact ⟨rfl, rfl, rfl⟩

set_option maxHeartbeats 400000 in
theorem integer_any (n : Int) (w : World) : Calls Tryz.prog 84 #[.int .i64 n] w fun e w' => e = .returned (.agg #[.int .u8 1, .int .i64 n, .string ⟨#[]⟩, .slice none 0 0]) ∧ Below w.heap.size w w' := by
  go_enter Tryz.func84, Tryz.ntmps84
  go_wp2
  refine bodyPost_ret (v := .agg #[.int .u8 1, .int .i64 n, .string ⟨#[]⟩, .slice none 0 0]) (by simp [results, Tryz.f84, go_sem]) rfl ?_
  exact ⟨rfl, (Below.refl _ w).alloc (Nat.le_refl _) _⟩

theorem intsOf_take {ts : List Tm} {j : Nat} (hj : j < ts.length) : intsOf (ts.take (j + 1)) = intsOf (ts.take j) ++ (if ts[j].kind = 1 then [ts[j].num] else []) := by
  unfold intsOf
  rw [List.take_succ_eq_append_getElem hj, List.filterMap_append]
  congr 1
  simp only [List.filterMap_cons, List.filterMap_nil]
  split <;> split <;> simp_all
theorem intsOf_one {ts : List Tm} {j : Nat} (hj : j < ts.length) {k n : Int} {s : ByteArray} {us : List Tm} (h : ts[j] = .mk k n s us) (hk : k = 1) : intsOf (ts.take (j + 1)) = intsOf (ts.take j) ++ [n] := by
  rw [intsOf_take hj, if_pos (by rw [h]; exact hk), h]; rfl
theorem intsOf_no {ts : List Tm} {j : Nat} (hj : j < ts.length) {k n : Int} {s : ByteArray} {us : List Tm} (h : ts[j] = .mk k n s us) (hk : k ≠ 1) : intsOf (ts.take (j + 1)) = intsOf (ts.take j) := by
  rw [intsOf_take hj, if_neg (by rw [h]; exact hk), List.append_nil]
theorem intsOf_le (ts : List Tm) : (intsOf ts).length ≤ ts.length := List.length_filterMap_le _ _
theorem info_int : (Tryz.prog.info? 3).map (fun i => (i.zero, i.size, i.bytes)) = some (some (.int .i64 0), 1, 8) := by kernel_rfl
theorem info_term : (Tryz.prog.info? 32).map (fun i => (i.zero, i.size, i.bytes)) = some (some (.agg #[.int .u8 0, .int .i64 0, .string ⟨#[]⟩, .slice none 0 0]), 4, 56) := by kernel_rfl

set_option maxRecDepth 100000 in
set_option maxHeartbeats 2000000 in
theorem integers_any (ts : List Tm) (v : Value) (w : World) (hv : RowV w v ts) (hlen : ts.length ≤ 1000000) :
    Calls Tryz.prog 80 #[v] w fun e w' => ∃ v', e = .returned v' ∧ Nums w.heap.size w' v' (intsOf ts) ∧ Below w.heap.size w w' := by
  obtain ⟨a, cap, rfl, _, hr⟩ := hv
  have HR := Lib.hid hr; clear hr
  obtain ⟨i0, hi, hz0, hz1, hz2⟩ := info_parts info_int
  go_enter Tryz.func80, Tryz.ntmps80
  go_wp2_with fail
  go_loopw [3, 8] (fun v i wr => ∃ j : Nat, j ≤ ts.length ∧ i = .int .i64 j ∧ Nums w.heap.size wr v (intsOf (ts.take j)) ∧ Below w.heap.size w wr) (fun _ i _ => ts.length - (intOf i).toNat)
  case atStart => exact ⟨0, by omega, by go_num, Nums.nil _ _, Below.refl _ _⟩
  case round =>
    obtain ⟨j, hj, rfl, hN, hBr⟩ := hrel
    by_cases hlt : j < ts.length
    · obtain ⟨b, off, rfl, hb, hI⟩ := HR.out (by intro e; rw [e] at hlt; simp at hlt)
      obtain ⟨c0, c1, c2, c3, e0, e1, e2, e3, hc⟩ := hI.at j hlt
      have g0 := (hBr.cell (p := ⟨b, off + j * 4, none⟩) (by show b < _; omega)).trans e0
      have g1 := (hBr.cell (p := ⟨b, off + j * 4 + 1, none⟩) (by show b < _; omega)).trans e1
      have g2 := (hBr.cell (p := ⟨b, off + j * 4 + 2, none⟩) (by show b < _; omega)).trans e2
      have g3 := (hBr.cell (p := ⟨b, off + j * 4 + 3, none⟩) (by show b < _; omega)).trans e3
      have hsz := hBr.size
      have hle := intsOf_le (ts.take j)
      have htl : (ts.take j).length = j := by simp; omega
      obtain ⟨k', n', s', as', hq⟩ : ∃ k' n' s' as', ts[j] = .mk k' n' s' as' := by cases ts[j]; exact ⟨_, _, _, _, rfl⟩
      rw [hq] at hc
      simp only [IsTm] at hc
      obtain ⟨rfl, _, rfl, hn', rfl, _, a', cap', rfl, _, _⟩ := hc
      have HQ := Lib.hid hq
      have HB := Lib.hid hBr
      have HN := Lib.hid hN
      have HI' := Lib.hid hn'
      clear e0 e1 e2 e3 hBr hq hI hN hn'
      have i1 : (0 : Int) ≤ (j : Int) := by omega
      have i2 : (j : Int) < (ts.length : Int) := by omega
      by_cases hk : k' = 1
      · subst hk
        have HT := Lib.hid (intsOf_one hlt HQ.out rfl)
        have hB2 : Below wr.heap.size wr ((wr.alloc (.cells #[.int .u8 1, .int .i64 n', .string s', .slice a' as'.length cap'] 32)).alloc (.cells #[.int .i64 n'] 3)) := ((Below.refl _ wr).alloc (Nat.le_refl _) _).alloc (by simp) _
        have HB2 := Lib.hid hB2
        clear hB2
        go_wp2_with (at_builtin; refine wpList_append_own _ rfl _ _ 22 rfl w.heap.size 3 i0 _ 1 8 Tryz.underlying22 hi hz0 hz1 hz2 rfl (by decide) _ _ _ rfl (HN.out.grow HB2.out) ⟨wr.heap.size + 1, 0, none⟩ 1 1 [.int .i64 n'] rfl rfl ?c1 ?c2 ?c3 ?c4 ?c5 ?_)
        case c1 =>
          intro jj u hu
          rcases jj with _ | jj
          · cases hu
            have := World.alloc_heap_new (wr.alloc (.cells #[.int .u8 1, .int .i64 n', .string s', .slice a' as'.length cap'] 32)) (.cells #[.int .i64 n'] 3)
            rw [World.size_alloc] at this
            exact cells_at this 0 _ rfl
          · simp at hu
        case c2 => simp [Value.oneCell']
        case c3 => unfold maxLen; omega
        case c4 => omega
        case c5 => have := HB2.out.size; omega
        intro v' w1 hown hg _
        have HO := Lib.hid hown
        have HG := Lib.hid hg
        clear hown hg
        go_wp2
        go_roundw
        case rel =>
          refine ⟨j + 1, by omega, by go_num, ?_, ?_⟩
          · unfold Nums
            rw [HT.out]
            simpa using HO.out
          · exact (HB.out.trans (HB2.out.mono hsz)).grown HG.out (by have := HB2.out.size; omega) (fun k e => (HN.out.lt k e).1)
        case measure => simp [intOf]; omega
      · have hk1 : (k' == 1) = false := by simpa using hk
        have HT := Lib.hid (intsOf_no hlt HQ.out hk)
        clear hk
        have hB2 : Below wr.heap.size wr (wr.alloc (.cells #[.int .u8 k', .int .i64 n', .string s', .slice a' as'.length cap'] 32)) := (Below.refl _ wr).alloc (Nat.le_refl _) _
        have HB2 := Lib.hid hB2
        clear hB2
        go_wp2
        go_roundw
        case rel => exact ⟨j + 1, by omega, by go_num, by rw [HT.out]; exact HN.out.grow HB2.out, HB.out.trans (HB2.out.mono hsz)⟩
        case measure => simp [intOf]; omega
    · rw [List.take_of_length_le (by omega)] at hN
      have HN := Lib.hid hN
      have HB := Lib.hid hBr
      clear hN hBr
      go_wp2
      go_ret
      exact ⟨_, rfl, HN.out, HB.out⟩
end Go.Proofs.YtnobmffgchlijaaGreatDoor
