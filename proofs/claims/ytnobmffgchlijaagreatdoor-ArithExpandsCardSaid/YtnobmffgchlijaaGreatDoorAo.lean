/- Package arith: expandInterval. -/
import Derived.Test.YtnobmffgchlijaaGreatDoorAm
namespace Go.Proofs.YtnobmffgchlijaaGreatDoor
open Go.RowKit Go.Shelf
attribute [local go_sem] Oper.semAt_some

theorem intsOf_pos {t : Tm} {ts : List Tm} (h : t.kind = 1) : intsOf (t :: ts) = t.num :: intsOf ts := List.filterMap_cons_some (if_pos h)
theorem intsOf_neg {t : Tm} {ts : List Tm} (h : t.kind ≠ 1) : intsOf (t :: ts) = intsOf ts := List.filterMap_cons_none (if_neg h)
theorem intsOf_nums : ∀ l : List Int, intsOf (l.map numT) = l
  | [] => rfl
  | a :: l => by
    rw [List.map_cons, intsOf_pos rfl, intsOf_nums l]; rfl
theorem intsOf_four {α : Type} (f : α → Tm) (hf : ∀ x, (f x).kind ≠ 1) : ∀ l : List α, intsOf (l.map f) = []
  | [] => rfl
  | a :: l => by rw [List.map_cons, intsOf_neg (hf a), intsOf_four f hf l]
theorem spanL_mem {a b n : Int} (h : n ∈ spanL a b) : a ≤ n ∧ n ≤ b := by
  unfold spanL at h
  obtain ⟨i, hi, rfl⟩ := List.mem_map.1 h
  have := List.mem_range.1 hi
  omega
/-- The numbers that a term expands to are in range. -/
theorem exp_range (t : Tm) : t.Wf → ∀ ts, t.exp = some ts → ∀ n ∈ intsOf ts, -2147483647 ≤ n ∧ n ≤ 2147483647 := by
  induction t using Tm.ind with
  | h k n s us ih =>
    intro hw ts h
    simp only [Tm.Wf] at hw
    obtain ⟨_, _, _, hw6, hw1, hwL⟩ := hw
    by_cases h4 : k = 4
    · subst h4
      rw [Tm.exp_fun, Option.bind_eq_some_iff] at h
      obtain ⟨ls, _, h⟩ := h
      split at h
      · cases h; intro m hm; rw [intsOf_four _ (fun x => by simp [Tm.kind])] at hm; cases hm
      · cases h
    · by_cases h5 : k = 5
      · subst h5
        rw [Tm.exp_op, Option.bind_eq_some_iff] at h
        obtain ⟨ls, _, h⟩ := h
        split at h
        · cases h
        · split at h
          · cases h
            intro m hm
            rw [intsOf_nums] at hm
            obtain ⟨c, _, hc⟩ := resultsI_mem.1 ((List.mem_mergeSort (le := fun x y => decide (x ≤ y))).1 hm)
            exact applyI_range hc
          · cases h
      · by_cases h6 : k = 6
        · subst h6
          rw [Tm.exp_span, Option.bind_eq_some_iff] at h
          obtain ⟨ls, hls, h⟩ := h
          obtain ⟨hl, he⟩ := Tm.expL_some hls
          have h2 := hw6 rfl
          have r := fun i (hi : i < us.length) => ih us[i] (List.getElem_mem hi) (Tm.WfL_mem hwL (List.getElem_mem hi)) _ (he i hi (by omega))
          split at h
          · rename_i a b ha hb
            split at h
            · cases h
              intro m hm
              rw [intsOf_nums] at hm
              have hm := spanL_mem hm
              have q0 : ls.getD 0 [] = ls[0] := by simp [List.getD_eq_getElem?_getD, show 0 < ls.length by omega]
              have q1 : ls.getD 1 [] = ls[1] := by simp [List.getD_eq_getElem?_getD, show 1 < ls.length by omega]
              rw [q0] at ha
              rw [q1] at hb
              have r0 := r 0 (by omega) a (List.mem_of_head? ha)
              have r1 := r 1 (by omega) b (List.mem_of_getLast? hb)
              omega
            · cases h
          · cases h; intro m hm; cases hm
        · rw [Tm.exp_leaf h4 h5 h6] at h
          cases h
          intro m hm
          by_cases h1 : k = 1
          · rw [intsOf_pos (t := .mk k n s []) h1] at hm
            have : m = n := by have h3 : m = (Tm.mk k n s []).num := by simpa [intsOf] using hm
                               exact h3
            rw [this]; exact hw1 h1
          · rw [intsOf_neg (t := .mk k n s []) h1] at hm; cases hm

theorem expL_none0 {t0 t1 : Tm} (h : t0.exp = none) : Tm.expL [t0, t1] = none := by simp [Tm.expL, h]
theorem expL_none1 {t0 t1 : Tm} (h : t1.exp = none) : Tm.expL [t0, t1] = none := by cases h0 : t0.exp <;> simp [Tm.expL, h, h0]
theorem expL_two {t0 t1 : Tm} {a b : List Tm} (h : t0.exp = some a) (k : t1.exp = some b) : Tm.expL [t0, t1] = some [a, b] := by simp [Tm.expL, h, k]
/-- What each slot stands for, ahead of the reads of the bounds. -/
def FnR (a0 o0 a1 o1 : Nat) (n0 c0 n1 c1 : Nat) (x y : Int) : Facts := fun i v _ => match i with
  | 0 => v = .slice (some ⟨a0, o0, none⟩) n0 c0
  | 1 => v = .pointer (some ⟨a0, o0, none⟩)
  | 2 | 9 => v = .int .i64 x
  | 3 | 4 => v = .slice (some ⟨a1, o1, none⟩) n1 c1
  | 5 => v = .int .i64 n1
  | 6 => v = .int .i64 ((n1 : Int) - 1)
  | 7 => v = .pointer (some ⟨a1, o1 + (n1 - 1), none⟩)
  | 8 => v = .int .i64 y
  | _ => True
theorem FnR_grow (a0 o0 a1 o1 : Nat) (n0 c0 n1 c1 : Nat) (x y : Int) (i : Nat) (v : Value) (w w' : World) (h : FnR a0 o0 a1 o1 n0 c0 n1 c1 x y i v w) (_ : Below w.heap.size w w') : FnR a0 o0 a1 o1 n0 c0 n1 c1 x y i v w' := by
  match i with
  | 0 | 1 | 2 | 3 | 4 | 5 | 6 | 7 | 8 | 9 => exact h
  | i + 10 => trivial
/-- What each slot stands for, ahead of the bounds. -/
def FnS (H N bk off cap : Nat) (A0 A1 : Value) (t0 t1 : Tm) : Facts := fun i v w => match i with
  | 0 | 6 => v = .pointer (some ⟨N, 3, none⟩)
  | 1 | 7 => v = .slice (some ⟨bk, off, none⟩) 2 cap
  | 2 => v = .pointer (some ⟨bk, off, none⟩)
  | 8 => v = .pointer (some ⟨bk, off + 4, none⟩)
  | 3 => v = A0
  | 9 => v = A1
  | 4 => ∃ ts, t0.exp = some ts ∧ RowV w v ts
  | 10 => ∃ ts, t1.exp = some ts ∧ RowV w v ts
  | 5 => ∃ ts, t0.exp = some ts ∧ Nums H w v (intsOf ts)
  | 11 => ∃ ts, t1.exp = some ts ∧ Nums H w v (intsOf ts)
  | _ => True
theorem FnS_grow (H N bk off cap : Nat) (A0 A1 : Value) (t0 t1 : Tm) (i : Nat) (v : Value) (w w' : World) (h : FnS H N bk off cap A0 A1 t0 t1 i v w) (hb : Below w.heap.size w w') : FnS H N bk off cap A0 A1 t0 t1 i v w' := by
  match i with
  | 0 | 1 | 2 | 3 | 6 | 7 | 8 | 9 => exact h
  | 4 | 10 =>
    obtain ⟨ts, h1, h2⟩ := h
    exact ⟨ts, h1, h2.grow hb⟩
  | 5 | 11 =>
    obtain ⟨ts, h1, h2⟩ := h
    exact ⟨ts, h1, h2.grow hb⟩
  | i + 12 => trivial

set_option maxRecDepth 100000 in
set_option maxHeartbeats 400000000 in
theorem span_any (n : Int) (s : ByteArray) (args : List Tm) (IH : ∀ u ∈ args, ExpAt u) (c0 c1 c2 c3 : Value) (w : World) (h : IsTm w.heap.size w c0 c1 c2 c3 (.mk 6 n s args)) (hw : (Tm.mk 6 n s args).Wf) :
    Calls Tryz.prog 68 #[.agg #[c0, c1, c2, c3]] w (ExpPost (.mk 6 n s args) w) := by
  simp only [IsTm] at h
  obtain ⟨rfl, _, rfl, hn, rfl, hss, a, cap, rfl, hl, ha⟩ := h
  simp only [Tm.Wf] at hw
  obtain ⟨hw8, _, _, hw6, _, hwL⟩ := hw
  have h2 := hw6 trivial
  obtain ⟨t0, t1, rfl⟩ : ∃ t0 t1, args = [t0, t1] := by
    match args, h2 with
    | [t0, t1], _ => exact ⟨t0, t1, rfl⟩
  obtain ⟨bk, off, rfl, hbk, hi⟩ := ha (by simp)
  simp only [IsTms] at hi
  obtain ⟨d0, d1, d2, d3, g00, g01, g02, g03, ht0, e0, e1, e2, e3, g10, g11, g12, g13, ht1, _⟩ := hi
  have hf0 := Tm.WfL_mem hwL (t := t0) (by simp)
  have hf1 := Tm.WfL_mem hwL (t := t1) (by simp)
  have I0 := IH t0 (by simp)
  have I1 := IH t1 (by simp)
  have b0 : (w.alloc (.cells #[.int .u8 6, .int .i64 n, .string s, .slice (some ⟨bk, off, none⟩) 2 cap] 32)).heap[w.heap.size]? = some (.cells #[.int .u8 6, .int .i64 n, .string s, .slice (some ⟨bk, off, none⟩) 2 cap] 32 (0, 0)) := World.alloc_heap_new _ _
  have mixed : Tryz.prog.follows .mixedOrders = true := by kernel_rfl
  refine callsIn_wide.1 (callsIn_of_wp (n := 0) Tryz.func68 rfl trivial ?_ rfl)
  simp only [Tryz.ntmps68, List.size_toArray, List.length_cons, List.length_nil, Nat.reduceAdd, Nat.reduceSub, Array.replicate_succ, Array.replicate_zero, List.push_toArray, List.append_toArray, List.nil_append, List.cons_append]
  gi_wp2_with fail
  refine wpIn_region_head mixed 12 (FnS w.heap.size w.heap.size bk off cap (.agg #[d0, d1, d2, d3]) (.agg #[e0, e1, e2, e3]) t0 t1) (FnS_grow _ _ _ _ _ _ _ _ _) (by kernel_rfl) (by kernel_rfl) (steps_in ⟨?_, ?_, ?_, ?_, ?_, ?_, ?_, ?_, ?_, ?_, ?_, ?_, trivial⟩) ?_
  · intro a2 wx hb2 hd hs ho2 hp
    refine ⟨rfl, ?_⟩
    have q1 : a2.tmps.getD 1 undef = _ := (ho2 1 (by kernel_rfl)).trans rfl
    unfold Oper.wpIn
    refine ⟨fun _ _ => trivial, ?_⟩
    go_simp
    exact Stepped.at rfl hd (Below.refl _ _) rfl
  · intro a2 wx hb2 hd hs ho2 hp
    refine ⟨rfl, ?_⟩
    have q9 : a2.tmps.getD 9 undef = .pointer (some ⟨w.heap.size, 3, none⟩) := facts_at hp 0 9 (by kernel_rfl)
    have x0 := cells_at ((hb2.block w.heap.size (by simp)).trans b0) 3 _ rfl
    unfold Oper.wpIn
    refine ⟨fun _ _ => trivial, ?_⟩
    go_simp
    exact Stepped.at rfl hd (Below.refl _ _) rfl
  · intro a2 wx hb2 hd hs ho2 hp
    refine ⟨rfl, ?_⟩
    have q10 : a2.tmps.getD 10 undef = .slice (some ⟨bk, off, none⟩) 2 cap := facts_at hp 1 10 (by kernel_rfl)
    unfold Oper.wpIn
    refine ⟨fun _ _ => trivial, ?_⟩
    go_simp
    exact Stepped.at (v := .pointer (some ⟨bk, off, none⟩)) rfl hd (Below.refl _ _) rfl
  · intro a2 wx hb2 hd hs ho2 hp
    refine ⟨rfl, ?_⟩
    have q11 : a2.tmps.getD 11 undef = .pointer (some ⟨bk, off, none⟩) := facts_at hp 2 11 (by kernel_rfl)
    have hbw : Below w.heap.size w wx := ((Below.refl _ w).alloc (Nat.le_refl _) _).trans (hb2.mono (by simp))
    have x0 := (hbw.cell (p := ⟨bk, off, none⟩) (by show bk < _; omega)).trans g00
    have x1 := (hbw.cell (p := ⟨bk, off + 1, none⟩) (by show bk < _; omega)).trans g01
    have x2 := (hbw.cell (p := ⟨bk, off + 2, none⟩) (by show bk < _; omega)).trans g02
    have x3 := (hbw.cell (p := ⟨bk, off + 3, none⟩) (by show bk < _; omega)).trans g03
    unfold Oper.wpIn
    refine ⟨fun _ _ => trivial, ?_⟩
    go_simp
    exact Stepped.at (v := .agg #[d0, d1, d2, d3]) rfl hd (Below.refl _ _) rfl
  · intro a2 wx hb2 hd hs ho2 hp
    refine ⟨rfl, ?_⟩
    have q12 : a2.tmps.getD 12 undef = .agg #[d0, d1, d2, d3] := facts_at hp 3 12 (by kernel_rfl)
    have hbw : Below w.heap.size w wx := ((Below.refl _ w).alloc (Nat.le_refl _) _).trans (hb2.mono (by simp))
    have HC := Lib.hid (I0 _ _ _ _ wx ((ht0.below hbw).mono hbw.size) hf0)
    unfold Oper.wpIn
    refine ⟨fun _ _ => trivial, ?_⟩
    go_simp
    refine ⟨rfl, (callsIn_wide.2 HC.out).mono ?_⟩
    rintro e w2 (⟨ts, v2, r1, rfl, r3, r4⟩ | ⟨r1, rfl, r4⟩)
    · exact Stepped.at (v := v2) rfl hd r4 ⟨ts, r1, r3.tms⟩
    · exact ⟨hd, .inr ⟨by rw [Tm.exp_span, expL_none0 r1]; rfl, rfl, hbw.trans (r4.mono hbw.size)⟩⟩
  · intro a2 wx hb2 hd hs ho2 hp
    refine ⟨rfl, ?_⟩
    obtain ⟨u, hu⟩ : ∃ u, a2.tmps.getD 13 undef = u := ⟨_, rfl⟩
    obtain ⟨ts, r1, r2⟩ : FnS w.heap.size w.heap.size bk off cap (.agg #[d0, d1, d2, d3]) (.agg #[e0, e1, e2, e3]) t0 t1 4 u wx := hu ▸ facts_at hp 4 13 (by kernel_rfl)
    have hbw : Below w.heap.size w wx := ((Below.refl _ w).alloc (Nat.le_refl _) _).trans (hb2.mono (by simp))
    have HC := Lib.hid (integers_any ts u wx r2 (by have := exp_le r1; omega))
    unfold Oper.wpIn
    refine ⟨fun _ _ => trivial, ?_⟩
    go_simp
    refine ⟨rfl, (callsIn_wide.2 HC.out).mono ?_⟩
    rintro e w2 ⟨v2, rfl, r3, r4⟩
    exact Stepped.at (v := v2) rfl hd r4 ⟨ts, r1, ownsRow_lower' r3 hbw.size⟩
  · intro a2 wx hb2 hd hs ho2 hp
    refine ⟨rfl, ?_⟩
    have q1 : a2.tmps.getD 1 undef = _ := (ho2 1 (by kernel_rfl)).trans rfl
    unfold Oper.wpIn
    refine ⟨fun _ _ => trivial, ?_⟩
    go_simp
    exact Stepped.at rfl hd (Below.refl _ _) rfl
  · intro a2 wx hb2 hd hs ho2 hp
    refine ⟨rfl, ?_⟩
    have q9 : a2.tmps.getD 15 undef = .pointer (some ⟨w.heap.size, 3, none⟩) := facts_at hp 6 15 (by kernel_rfl)
    have x0 := cells_at ((hb2.block w.heap.size (by simp)).trans b0) 3 _ rfl
    unfold Oper.wpIn
    refine ⟨fun _ _ => trivial, ?_⟩
    go_simp
    exact Stepped.at rfl hd (Below.refl _ _) rfl
  · intro a2 wx hb2 hd hs ho2 hp
    refine ⟨rfl, ?_⟩
    have q10 : a2.tmps.getD 16 undef = .slice (some ⟨bk, off, none⟩) 2 cap := facts_at hp 7 16 (by kernel_rfl)
    unfold Oper.wpIn
    refine ⟨fun _ _ => trivial, ?_⟩
    go_simp
    exact Stepped.at (v := .pointer (some ⟨bk, off + 4, none⟩)) rfl hd (Below.refl _ _) rfl
  · intro a2 wx hb2 hd hs ho2 hp
    refine ⟨rfl, ?_⟩
    have q11 : a2.tmps.getD 17 undef = .pointer (some ⟨bk, off + 4, none⟩) := facts_at hp 8 17 (by kernel_rfl)
    have hbw : Below w.heap.size w wx := ((Below.refl _ w).alloc (Nat.le_refl _) _).trans (hb2.mono (by simp))
    have x0 := (hbw.cell (p := ⟨bk, off + 4, none⟩) (by show bk < _; omega)).trans g10
    have x1 := (hbw.cell (p := ⟨bk, off + 4 + 1, none⟩) (by show bk < _; omega)).trans g11
    have x2 := (hbw.cell (p := ⟨bk, off + 4 + 2, none⟩) (by show bk < _; omega)).trans g12
    have x3 := (hbw.cell (p := ⟨bk, off + 4 + 3, none⟩) (by show bk < _; omega)).trans g13
    unfold Oper.wpIn
    refine ⟨fun _ _ => trivial, ?_⟩
    go_simp
    exact Stepped.at (v := .agg #[e0, e1, e2, e3]) rfl hd (Below.refl _ _) rfl
  · intro a2 wx hb2 hd hs ho2 hp
    refine ⟨rfl, ?_⟩
    have q12 : a2.tmps.getD 18 undef = .agg #[e0, e1, e2, e3] := facts_at hp 9 18 (by kernel_rfl)
    have hbw : Below w.heap.size w wx := ((Below.refl _ w).alloc (Nat.le_refl _) _).trans (hb2.mono (by simp))
    have HC := Lib.hid (I1 _ _ _ _ wx ((ht1.below hbw).mono hbw.size) hf1)
    unfold Oper.wpIn
    refine ⟨fun _ _ => trivial, ?_⟩
    go_simp
    refine ⟨rfl, (callsIn_wide.2 HC.out).mono ?_⟩
    rintro e w2 (⟨ts, v2, r1, rfl, r3, r4⟩ | ⟨r1, rfl, r4⟩)
    · exact Stepped.at (v := v2) rfl hd r4 ⟨ts, r1, r3.tms⟩
    · exact ⟨hd, .inr ⟨by rw [Tm.exp_span, expL_none1 r1]; rfl, rfl, hbw.trans (r4.mono hbw.size)⟩⟩
  · intro a2 wx hb2 hd hs ho2 hp
    refine ⟨rfl, ?_⟩
    obtain ⟨u, hu⟩ : ∃ u, a2.tmps.getD 19 undef = u := ⟨_, rfl⟩
    obtain ⟨ts, r1, r2⟩ : FnS w.heap.size w.heap.size bk off cap (.agg #[d0, d1, d2, d3]) (.agg #[e0, e1, e2, e3]) t0 t1 10 u wx := hu ▸ facts_at hp 10 19 (by kernel_rfl)
    have hbw : Below w.heap.size w wx := ((Below.refl _ w).alloc (Nat.le_refl _) _).trans (hb2.mono (by simp))
    have HC := Lib.hid (integers_any ts u wx r2 (by have := exp_le r1; omega))
    unfold Oper.wpIn
    refine ⟨fun _ _ => trivial, ?_⟩
    go_simp
    refine ⟨rfl, (callsIn_wide.2 HC.out).mono ?_⟩
    rintro e w2 ⟨v2, rfl, r3, r4⟩
    exact Stepped.at (v := v2) rfl hd r4 ⟨ts, r1, ownsRow_lower' r3 hbw.size⟩
  intro m' a2 wx hb2 hd hs ho2 hf
  obtain ⟨u, hu⟩ : ∃ u, a2.tmps.getD 14 undef = u := ⟨_, rfl⟩
  obtain ⟨ts0, r0, N0⟩ : FnS w.heap.size w.heap.size bk off cap (.agg #[d0, d1, d2, d3]) (.agg #[e0, e1, e2, e3]) t0 t1 5 u wx := hu ▸ facts_to hf 5 14 (by decide) (by kernel_rfl)
  obtain ⟨v, hv⟩ : ∃ v, a2.tmps.getD 20 undef = v := ⟨_, rfl⟩
  obtain ⟨ts1, r1, N1⟩ : FnS w.heap.size w.heap.size bk off cap (.agg #[d0, d1, d2, d3]) (.agg #[e0, e1, e2, e3]) t0 t1 11 v wx := hv ▸ facts_to hf 11 20 (by decide) (by kernel_rfl)
  have k2 : a2.tmps.getD 2 undef = .slice none 0 0 := (ho2 2 (by kernel_rfl)).trans rfl
  have R0 := exp_range t0 hf0 ts0 r0
  have R1 := exp_range t1 hf1 ts1 r1
  have z0 := exp_le r0
  have z1 := exp_le r1
  have y0 := intsOf_le ts0
  have y1 := intsOf_le ts1
  have hEx : (Tm.mk 6 n s [t0, t1]).exp = match (intsOf ts0).head?, (intsOf ts1).getLast? with
      | some a, some b => if b - a + 1 ≤ 1000 then some ((spanL a b).map numT) else none
      | _, _ => some [] := by rw [Tm.exp_span, expL_two r0 r1]; rfl
  have hbw : Below w.heap.size w wx := ((Below.refl _ w).alloc (Nat.le_refl _) _).trans (hb2.mono (by simp))
  clear hf I0 I1 r0 r1 IH ha ht0 ht1 g00 g01 g02 g03 g10 g11 g12 g13 b0 hb2
  obtain ⟨l0, hl0⟩ : ∃ l, intsOf ts0 = l := ⟨_, rfl⟩
  obtain ⟨l1, hl1⟩ : ∃ l, intsOf ts1 = l := ⟨_, rfl⟩
  rw [hl0] at N0 R0 y0 hEx
  rw [hl1] at N1 R1 y1 hEx
  obtain ⟨T, D⟩ := a2
  simp only at hd hs hu hv k2
  subst hd
  have hE2 := slots_all T 55 (hs.trans rfl)
  simp only [List.range, List.range.loop, List.map, hu, hv, k2] at hE2
  rw [hE2]
  clear hE2 hu hv k2 ho2 hs hl0 hl1
  have HE := Lib.hid hEx
  have HB := Lib.hid hbw
  have HN0 := Lib.hid N0
  have HN1 := Lib.hid N1
  obtain ⟨i0, c0, rfl, _, p0⟩ := Nums.intV N0
  obtain ⟨i1, c1, rfl, _, p1⟩ := Nums.intV N1
  have P0 := Lib.hid p0
  have P1 := Lib.hid p1
  clear hEx hbw N0 N1 p0 p1
  refine any_one (i := 12) (by kernel_rfl) rfl ?_
  gi_wp2
  refine any_one (i := 13) (by kernel_rfl) rfl ?_
  gi_wp2
  refine wpAnyIn_done (by kernel_rfl) ?_ _
  by_cases h0 : l0.length = 0
  · have e : (((l0.length : Nat) : Int) == 0) = true := by simpa using h0
    gi_wp2
    go_ret
    have hnil := List.length_eq_zero_iff.1 h0
    exact .inl ⟨[], _, by rw [HE.out, hnil]; rfl, rfl, Vals.nil _ _ _, HB.out⟩
  · have e : (((l0.length : Nat) : Int) == 0) = false := by simpa using h0
    by_cases h1 : l1.length = 0
    · have e' : (((l1.length : Nat) : Int) == 0) = true := by simpa using h1
      gi_wp2
      go_ret
      have hnil := List.length_eq_zero_iff.1 h1
      exact .inl ⟨[], _, by rw [HE.out, hnil]; cases l0.head? <;> rfl, rfl, Vals.nil _ _ _, HB.out⟩
    · have e' : (((l1.length : Nat) : Int) == 0) = false := by simpa using h1
      gi_wp2
      obtain ⟨a0, o0, rfl, ha0, hc0⟩ := P0.out (fun e => h0 (by rw [e]; rfl))
      obtain ⟨a1, o1, rfl, ha1, hc1⟩ := P1.out (fun e => h1 (by rw [e]; rfl))
      obtain ⟨x, hx⟩ : ∃ x, l0[0]'(by omega) = x := ⟨_, rfl⟩
      obtain ⟨y, hy⟩ : ∃ y, l1[l1.length - 1]'(by omega) = y := ⟨_, rfl⟩
      have g0 : wx.cell? ⟨a0, o0, none⟩ = some (.int .i64 x) := by rw [← hx]; exact hc0 0 (by omega)
      have g1 : wx.cell? ⟨a1, o1 + (l1.length - 1), none⟩ = some (.int .i64 y) := by rw [← hy]; exact hc1 (l1.length - 1) (by omega)
      have rx := R0 x (by rw [← hx]; exact List.getElem_mem _)
      have ry := R1 y (by rw [← hy]; exact List.getElem_mem _)
      have hE2 : (Tm.mk 6 n s [t0, t1]).exp = if y - x + 1 ≤ 1000 then some ((spanL x y).map numT) else none := by
        rw [HE.out, List.head?_eq_getElem?, List.getElem?_eq_getElem (by omega), hx, List.getLast?_eq_getElem?, List.getElem?_eq_getElem (by omega), hy]
      have k0 : 0 < l0.length := by omega
      have k1 : (1 : Int) ≤ (l1.length : Int) := by omega
      clear P0 P1 hc0 hc1 hx hy R0 R1 HE
      have HE := Lib.hid hE2
      clear hE2
      refine wpIn_region_head mixed 10 (FnR a0 o0 a1 o1 l0.length c0 l1.length c1 x y) (FnR_grow _ _ _ _ _ _ _ _ _ _) (by kernel_rfl) (by kernel_rfl) (steps_in ⟨?_, ?_, ?_, ?_, ?_, ?_, ?_, ?_, ?_, ?_, trivial⟩) ?_
      · intro a2 wy hb2 hd hs ho2 hp
        refine ⟨rfl, ?_⟩
        have q : a2.tmps.getD 3 undef = .slice (some ⟨a0, o0, none⟩) l0.length c0 := (ho2 3 (by kernel_rfl)).trans rfl
        unfold Oper.wpIn
        refine ⟨fun _ _ => trivial, ?_⟩
        go_simp
        exact Stepped.at rfl hd (Below.refl _ _) rfl
      · intro a2 wy hb2 hd hs ho2 hp
        refine ⟨rfl, ?_⟩
        have q : a2.tmps.getD 29 undef = .slice (some ⟨a0, o0, none⟩) l0.length c0 := facts_at hp 0 29 (by kernel_rfl)
        unfold Oper.wpIn
        refine ⟨fun _ _ => trivial, ?_⟩
        go_simp
        exact Stepped.at (v := .pointer (some ⟨a0, o0, none⟩)) rfl hd (Below.refl _ _) rfl
      · intro a2 wy hb2 hd hs ho2 hp
        refine ⟨rfl, ?_⟩
        have q : a2.tmps.getD 30 undef = .pointer (some ⟨a0, o0, none⟩) := facts_at hp 1 30 (by kernel_rfl)
        have x0 := (hb2.cell (p := ⟨a0, o0, none⟩) (by show a0 < _; omega)).trans g0
        unfold Oper.wpIn
        refine ⟨fun _ _ => trivial, ?_⟩
        go_simp
        exact Stepped.at rfl hd (Below.refl _ _) rfl
      · intro a2 wy hb2 hd hs ho2 hp
        refine ⟨rfl, ?_⟩
        have q : a2.tmps.getD 4 undef = .slice (some ⟨a1, o1, none⟩) l1.length c1 := (ho2 4 (by kernel_rfl)).trans rfl
        unfold Oper.wpIn
        refine ⟨fun _ _ => trivial, ?_⟩
        go_simp
        exact Stepped.at rfl hd (Below.refl _ _) rfl
      · intro a2 wy hb2 hd hs ho2 hp
        refine ⟨rfl, ?_⟩
        have q : a2.tmps.getD 4 undef = .slice (some ⟨a1, o1, none⟩) l1.length c1 := (ho2 4 (by kernel_rfl)).trans rfl
        unfold Oper.wpIn
        refine ⟨fun _ _ => trivial, ?_⟩
        go_simp
        exact Stepped.at rfl hd (Below.refl _ _) rfl
      · intro a2 wy hb2 hd hs ho2 hp
        refine ⟨rfl, ?_⟩
        have q : a2.tmps.getD 33 undef = .slice (some ⟨a1, o1, none⟩) l1.length c1 := facts_at hp 4 33 (by kernel_rfl)
        unfold Oper.wpIn
        refine ⟨fun _ _ => trivial, ?_⟩
        go_simp
        exact Stepped.at rfl hd (Below.refl _ _) rfl
      · intro a2 wy hb2 hd hs ho2 hp
        refine ⟨rfl, ?_⟩
        have q : a2.tmps.getD 34 undef = .int .i64 l1.length := facts_at hp 5 34 (by kernel_rfl)
        have kw : IntKind.i64.wrap ((l1.length : Int) - 1) = (l1.length : Int) - 1 := by rw [IntKind.wrap_i64]; omega
        unfold Oper.wpIn
        refine ⟨fun _ _ => trivial, ?_⟩
        go_simp
        exact Stepped.at (v := .int .i64 ((l1.length : Int) - 1)) rfl hd (Below.refl _ _) rfl
      · intro a2 wy hb2 hd hs ho2 hp
        refine ⟨rfl, ?_⟩
        have q : a2.tmps.getD 32 undef = .slice (some ⟨a1, o1, none⟩) l1.length c1 := facts_at hp 3 32 (by kernel_rfl)
        have q2 : a2.tmps.getD 35 undef = .int .i64 ((l1.length : Int) - 1) := facts_at hp 6 35 (by kernel_rfl)
        have k3' : (0 : Int) ≤ (l1.length : Int) - 1 := by omega
        have k2 : (l1.length : Int) - 1 < (l1.length : Int) := by omega
        have k3 : ((l1.length : Int) - 1).toNat = l1.length - 1 := by omega
        unfold Oper.wpIn
        refine ⟨fun _ _ => trivial, ?_⟩
        go_simp
        exact Stepped.at (v := .pointer (some ⟨a1, o1 + (l1.length - 1), none⟩)) rfl hd (Below.refl _ _) rfl
      · intro a2 wy hb2 hd hs ho2 hp
        refine ⟨rfl, ?_⟩
        have q : a2.tmps.getD 36 undef = .pointer (some ⟨a1, o1 + (l1.length - 1), none⟩) := facts_at hp 7 36 (by kernel_rfl)
        have x0 := (hb2.cell (p := ⟨a1, o1 + (l1.length - 1), none⟩) (by show a1 < _; omega)).trans g1
        unfold Oper.wpIn
        refine ⟨fun _ _ => trivial, ?_⟩
        go_simp
        exact Stepped.at rfl hd (Below.refl _ _) rfl
      · intro a2 wy hb2 hd hs ho2 hp
        refine ⟨rfl, ?_⟩
        have q : a2.tmps.getD 31 undef = .int .i64 x := facts_at hp 2 31 (by kernel_rfl)
        unfold Oper.wpIn
        refine ⟨fun _ _ => trivial, ?_⟩
        go_simp
        exact Stepped.at rfl hd (Below.refl _ _) rfl
      intro m2 a2 wy hb2 hd hs ho2 hf
      have k37 : a2.tmps.getD 37 undef = .int .i64 y := facts_to hf 8 37 (by decide) (by kernel_rfl)
      have k5 : a2.tmps.getD 5 undef = .int .i64 x := facts_to hf 9 5 (by decide) (by kernel_rfl)
      clear hf
      obtain ⟨T2, D⟩ := a2
      simp only at hd hs k37 k5
      subst hd
      have hE2 := slots_all T2 55 (hs.trans rfl)
      simp only [List.range, List.range.loop, List.map, k37, k5] at hE2
      rw [hE2]
      clear hE2 k37 k5 ho2 hs
      have hBy := HB.out.trans (hb2.mono HB.out.size)
      refine any_one (i := 10) (by kernel_rfl) rfl ?_
      gi_wp2
      refine wpAnyIn_done (by kernel_rfl) ?_ _
      by_cases hfar : 1000 < y - x + 1
      · gi_wp2_with (first | (refine ⟨trivial, rfl, ?_⟩; gi_at_call 78; refine (callsIn_wide.2 (limit_far _ hfar _)).mono ?_; rintro e w' ⟨rfl, rfl⟩))
        exact ⟨rfl, .inr ⟨by rw [HE.out, if_neg (by omega)], rfl, hBy⟩⟩
      · gi_wp2_with (first | (refine ⟨trivial, rfl, ?_⟩; gi_at_call 78; refine (callsIn_wide.2 (limit_ok _ (by omega) _)).mono ?_; rintro e w' ⟨rfl, rfl⟩))
        rw [if_pos (by omega)] at HE
        have hsp : (spanL x y).length = (y - x + 1).toNat := spanL_length x y
        have hsg : ∀ j (h : j < (spanL x y).length), (spanL x y)[j] = x + (j : Int) := fun j h => by simp [spanL]
        obtain ⟨L, hLd⟩ : ∃ L, spanL x y = L := ⟨_, rfl⟩
        rw [hLd] at hsp
        have HSG := Lib.hid (show ∀ j (h : j < L.length), L[j] = x + (j : Int) by subst hLd; exact hsg)
        rw [hLd] at HE
        have HSP := Lib.hid hsp
        clear hsg hLd hsp
        gi_loopw [7, 8] (fun v7 i wl => ∃ j : Nat, j ≤ L.length ∧ i = .int .i64 (x + (j : Int)) ∧ Vals none wy.heap.size wl v7 ((L.take j).map numT) ∧ Below wy.heap.size wy wl) (fun _ i _ => (y + 1 - intOf i).toNat)
        case atStart => exact ⟨0, Nat.zero_le _, by simp, Vals.nil _ _ _, Below.refl _ _⟩
        case round =>
          obtain ⟨j, hj, rfl, hV, hBl⟩ := hrel
          have HBL := Lib.hid hBl
          have hjy : (j : Int) ≤ y - x + 1 ∨ j = 0 := by have := HSP.out; omega
          by_cases hlt : j < L.length
          · have hxj : x + (j : Int) ≤ y := by have := HSP.out; omega
            have hxI : I64 (x + (j : Int)) := by
              unfold I64 Lit.wf
              simp only [Bool.and_eq_true, decide_eq_true_eq]
              exact ⟨by show -9223372036854775808 ≤ x + (j : Int); omega, by show x + (j : Int) ≤ 9223372036854775807; omega⟩
            obtain ⟨xs, hO, hH, _⟩ := hV
            have HO := Lib.hid hO
            have HH := Lib.hid hH
            have HT := Lib.hid (show (L.take (j + 1)).map numT = (L.take j).map numT ++ [numT (x + (j : Int))] by rw [List.take_succ_eq_append_getElem hlt, List.map_append, HSG.out j hlt]; rfl)
            have htl : ((L.take j).map numT).length = j := by simp; omega
            obtain ⟨TS, hTS⟩ : ∃ TS, (L.take j).map numT = TS := ⟨_, rfl⟩
            rw [hTS] at htl HT HO HH
            clear hTS
            have hL7 : L.length ≤ 1000 := by have := HSP.out; omega
            obtain ⟨z, hz⟩ : ∃ z, x + (j : Int) = z := ⟨_, rfl⟩
            rw [hz] at hxj hxI HT
            obtain ⟨i0, hi, hz0, hz1, hz2⟩ := info_parts info_term
            rw [hz]
            clear hO hH hBl
            have hzr : -2147483647 ≤ z ∧ z ≤ 2147483647 := by omega
            gi_wp2_with (first | (refine ⟨trivial, rfl, ?_⟩; gi_at_call 84; refine (callsIn_wide.2 (integer_any z _)).mono ?_; rintro e W3 ⟨rfl, hb3⟩) | (gi_at_builtin; refine wpListIn_append_own_at _ rfl _ _ 30 rfl wy.heap.size 32 i0 _ 4 56 Tryz.underlying30 hi hz0 hz1 hz2 rfl (by decide) u7 TS.length xs rfl ?c0 _ 1 1 [.int .u8 1, .int .i64 z, .string ⟨#[]⟩, .slice none 0 0] rfl rfl ?c1 ?c2 ?c3 ?c4 ?c5 ?_))
            case c2 => simp [Value.oneCell']
            case c3 => unfold maxLen; omega
            case c4 => omega
            case c5 => have := HBL.out.size; have := hb3.size; simp; omega
            case c1 =>
              intro jj u' hu'
              have hn := World.alloc_heap_new W3 (.cells #[.int .u8 1, .int .i64 z, .string ⟨#[]⟩, .slice none 0 0] 32)
              rcases jj with _ | _ | _ | _ | jj
              · cases hu'; exact cells_at hn 0 _ rfl
              · cases hu'; exact cells_at hn 1 _ rfl
              · cases hu'; exact cells_at hn 2 _ rfl
              · cases hu'; exact cells_at hn 3 _ rfl
              · simp at hu'
            case c0 => exact own_grown HO.out (hb3.alloc hb3.size _)
            intro v' w' hown' hgrow _ hat
            have hBA := hb3.alloc hb3.size (.cells #[.int .u8 1, .int .i64 z, .string ⟨#[]⟩, .slice none 0 0] 32)
            have zA := hBA.size
            have zL := HBL.out.size
            have hV' : Vals none wy.heap.size w' v' (TS ++ [numT z]) := Vals.app (ts := TS) (us := [numT z]) (HH.out.keep fun b hf => ⟨⟨hf.1, Nat.lt_of_lt_of_le hf.2.1 zA, hf.2.2⟩, hBA.block b hf.2.1⟩) (fun g e => by cases e)
              (HoldL.one (by
                unfold numT
                simp only [IsTmIn]
                exact ⟨rfl, by omega, rfl, hxI, rfl, by show 0 ≤ maxLen; exact Nat.zero_le _, none, 0, rfl, by simp, fun h => absurd rfl h⟩)) (by rw [htl]; exact hown') hgrow (by rw [World.size_alloc]; exact hat)
            have hBw : Below wy.heap.size wy w' := (HBL.out.trans (hBA.mono zL)).grown hgrow (by omega) (fun k e => (HO.out.lt k e).1)
            have HF := Lib.hid (show ∃ j' : Nat, j' ≤ L.length ∧ (Value.int .i64 (z + 1)) = .int .i64 (x + (j' : Int)) ∧ Vals none wy.heap.size w' v' ((L.take j').map numT) ∧ Below wy.heap.size wy w' from ⟨j + 1, by omega, by rw [← hz]; congr 1; omega, by rw [HT.out]; exact hV', hBw⟩)
            clear hown' hgrow hat hBA hV' hBw HH HO HT
            gi_wp2
            go_roundw
            case rel => exact HF.out
            case measure => simp [intOf]; omega
          · have hje : j = L.length := by omega
            have hxj : y < x + (j : Int) := by have := HSP.out; omega
            rw [hje, List.take_of_length_le (Nat.le_refl _)] at hV
            have HV := Lib.hid hV
            clear hV hBl
            obtain ⟨z, hz⟩ : ∃ z, x + (j : Int) = z := ⟨_, rfl⟩
            rw [hz] at hxj
            rw [hz]
            gi_wp2
            go_ret
            exact .inl ⟨_, _, HE.out, rfl, HV.out.lower (by have := hBy.size; omega), hBy.trans (HBL.out.mono (by have := hBy.size; omega))⟩
end Go.Proofs.YtnobmffgchlijaaGreatDoor
