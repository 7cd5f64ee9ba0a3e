/- Texts that belong together: Package match: copies of terms, with bound variables replaced; Get; Apply. Package match: the pairs of a valid binding; Apply, Get. Package term: Compare and Equal. Package term: Equal. -/
import Derived.Test.YtlmdhlckgbgfhaaGreatDoorZd
import Derived.Test.YtlmdhlckgbgfhaaGreatDoorZg
import Derived.Test.YtlmdhlckgbgfhaaGreatDoorZc
import Derived.StillTailTactics
import Derived.RangeFuncBox
set_option maxRecDepth 100000
set_option maxHeartbeats 400000000
namespace Go.Proofs.YtlmdhlckgbgfhaaGreatDoor
open Go.RowKit Go.Shelf
attribute [local go_sem] Oper.semAt_some

mutual
def applyT (b : Bd) : Tm → Tm
 | .mk k n s us => if k = 3 then (match lookB b s with
   | some v => v
   | none => .mk k n s (applyTL b us)) else .mk k n s (applyTL b us)
def applyTL (b : Bd) : List Tm → List Tm
 | [] => []
 | t :: ts => applyT b t :: applyTL b ts
end
theorem applyTL_map (b : Bd) : ∀ ts : List Tm, applyTL b ts = ts.map (applyT b)
 | [] => rfl
 | t :: ts => by simp only [applyTL, List.map_cons, applyTL_map b ts]
def repB (b : Bd) : Tm → Option Tm
 | .mk k _ s _ => if k = 3 then lookB b s else none
theorem applyT_some {b : Bd} {t u : Tm} (h : repB b t = some u) : applyT b t = u := by
 obtain ⟨k, n, s, us⟩ := t
 simp only [repB] at h
 by_cases h3 : k = 3
 · rw [if_pos h3] at h
   simp only [applyT, if_pos h3, h]
 · rw [if_neg h3] at h; cases h
theorem applyT_none {b : Bd} {k n : Int} {s : ByteArray} {us : List Tm} (h : repB b (.mk k n s us) = none) : applyT b (.mk k n s us) = .mk k n s (us.map (applyT b)) := by
 simp only [repB] at h
 simp only [applyT, applyTL_map]
 by_cases h3 : k = 3
 · rw [if_pos h3] at h
   rw [if_pos h3, h]
 · rw [if_neg h3]
theorem count_mem : ∀ {us : List Tm} {t : Tm}, t ∈ us → t.count ≤ Tm.countL us
 | a :: us, t, h => by
   simp only [Tm.countL]
   rcases List.mem_cons.1 h with rfl | h
   · omega
   · have := count_mem h; omega
theorem len_countL : ∀ us : List Tm, us.length ≤ Tm.countL us
 | [] => Nat.zero_le _
 | t :: us => by
   have := len_countL us
   have h1 : 1 ≤ t.count := by cases t; simp only [Tm.count]; omega
   simp only [Tm.countL, List.length_cons]
   omega

theorem look_gone {b : Bd} {s : ByteArray} {w0 w w' : World} {e : Ending} (h : LookPost b s w0 w e w') (hr : lookB b s = none) : e = .returned (.tuple #[.agg #[.int .u8 0, .int .i64 0, .string ⟨#[]⟩, .slice none 0 0], .bool false]) ∧ Below w.heap.size w w' := by
 obtain ⟨c0, c1, c2, c3, he, hb, ⟨_, rfl, rfl, rfl, rfl⟩ | ⟨t, ht, _⟩⟩ := h
 · rw [hr] at he; exact ⟨he, hb⟩
 · rw [hr] at ht; cases ht
theorem look_there {b : Bd} {s : ByteArray} {w0 w w' : World} {e : Ending} {u : Tm} (h : LookPost b s w0 w e w') (hr : lookB b s = some u) :
   ∃ k n t a l c, e = .returned (.tuple #[.agg #[.int .u8 k, .int .i64 n, .string t, .slice a l c], .bool true]) ∧ IsTm w0.heap.size w0 (.int .u8 k) (.int .i64 n) (.string t) (.slice a l c) u ∧ Below w.heap.size w w' := by
 obtain ⟨c0, c1, c2, c3, he, hb, ⟨ht, _⟩ | ⟨t, ht, hi⟩⟩ := h
 · rw [hr] at ht; cases ht
 · rw [hr] at ht
   cases ht
   rw [hr] at he
   have hi0 := hi
   obtain ⟨k, n, t, us⟩ := u
   simp only [IsTm] at hi
   obtain ⟨rfl, _, rfl, _, rfl, _, a, c, rfl, _, _⟩ := hi
   exact ⟨k, n, t, a, _, c, he, hi0, hb⟩
theorem block_lt {w : World} {P o : Nat} {v : Value} (h : w.cell? ⟨P, o, none⟩ = some v) : P < w.heap.size := by
 unfold World.cell? at h
 cases hq : w.heap[P]? with
 | none => simp [hq] at h
 | some x => exact (gL hq)
theorem clone1_any (k n : Int) (s : ByteArray) (a : Option Addr) (l c : Nat) (w : World) : Calls Tryz.prog 100 #[.agg #[.int .u8 k, .int .i64 n, .string s, .slice a l c]] w fun e w' => e = .returned (.tuple #[.agg #[.int .u8 0, .int .i64 0, .string ⟨#[]⟩, .slice none 0 0], .bool false]) ∧ Below w.heap.size w w' := by
 go_enter Tryz.func100, Tryz.ntmps100
 go_wp2
 refine bodyPost_ret (v := .tuple #[.agg #[.int .u8 0, .int .i64 0, .string ⟨#[]⟩, .slice none 0 0], .bool false]) (by simp [results, Tryz.f100, go_sem]) rfl ?_
 exact ⟨rfl, ((Below.refl _ w).alloc (Nat.le_refl _) _).alloc (by simp) _⟩
theorem apply1_none (b : Bd) (hs : Srt b) (hlen : b.length ≤ 1000000) (P : Nat) (v : Value) (k n : Int) (s : ByteArray) (a : Option Addr) (l c : Nat) (w0 w : World) (hb0 : Below w0.heap.size w0 w) (hp : w0.cell? ⟨P, 0, none⟩ = some v) (hv : BdV w0 v b) (hr : (if k = 3 then lookB b s else none) = none) :
   Calls Tryz.prog 57 #[.agg #[.int .u8 k, .int .i64 n, .string s, .slice a l c], .pointer (some ⟨P, 0, none⟩)] w fun e w' => e = .returned (.tuple #[.agg #[.int .u8 0, .int .i64 0, .string ⟨#[]⟩, .slice none 0 0], .bool false]) ∧ Below w.heap.size w w' := by
 have hP := block_lt hp
 have z00 := hb0.size
 obtain ⟨W0, hW0⟩ : ∃ W0, (w.alloc (.cells #[.int .u8 k, .int .i64 n, .string s, .slice a l c] 24)).alloc (.cells #[.int .u8 0, .int .i64 0, .string ⟨#[]⟩, .slice none 0 0] 24) = W0 := ⟨_, rfl⟩
 have hB : Below w.heap.size w W0 := by rw [← hW0]; exact ((Below.refl _ w).alloc (Nat.le_refl _) _).alloc (by simp) _
 have hRR : W0.heap[w.heap.size + 1]? = some (.cells #[.int .u8 0, .int .i64 0, .string ⟨#[]⟩, .slice none 0 0] 24 (0, 0)) := by
   rw [← hW0]; have := World.alloc_heap_new (w.alloc (.cells #[.int .u8 k, .int .i64 n, .string s, .slice a l c] 24)) (.cells #[.int .u8 0, .int .i64 0, .string ⟨#[]⟩, .slice none 0 0] 24); rwa [World.size_alloc] at this
 have hR0 : W0.heap[w.heap.size]? = some (.cells #[.int .u8 k, .int .i64 n, .string s, .slice a l c] 24 (0, 0)) := by
   rw [← hW0]; exact (Below.heap_alloc _ _ _ (by simp)).trans (World.alloc_heap_new _ _)
 have x0 := cells_at hR0 0 _ rfl
 have x2 := cells_at hR0 2 _ rfl
 have xp := ((hb0.trans (hB.mono z00)).cell (p := ⟨P, 0, none⟩) hP).trans hp
 have HL := Hi (lookup_at b hs s v w0 W0 hv (hb0.trans (hB.mono z00)) hlen)
 have HB := Hi hB
 have HRR := Hi hRR
 have hsz : w.heap.size + 2 = W0.heap.size := by rw [← hW0]; simp
 have HSZ := Hi hsz
 obtain ⟨va, vn, vc, rfl⟩ : ∃ va vn vc, v = .slice va vn vc := by obtain ⟨a, c, e, _⟩ := hv; exact ⟨_, _, _, e⟩
 have r0 := cells_at hRR 0 _ rfl
 have r1 := cells_at hRR 1 _ rfl
 have r2 := cells_at hRR 2 _ rfl
 have r3 := cells_at hRR 3 _ rfl
 have p0 := frozen_of_row W0 (w.heap.size + 1) 0 _ _ hRR
 have p1 := frozen_of_row W0 (w.heap.size + 1) 1 _ _ hRR
 have p2 := frozen_of_row W0 (w.heap.size + 1) 2 _ _ hRR
 have p3 := frozen_of_row W0 (w.heap.size + 1) 3 _ _ hRR
 clear hB hRR hR0 hv hs hsz
 go_enter Tryz.func57, Tryz.ntmps57
 by_cases h3 : k = 3
 · subst h3
   rw [if_pos rfl] at hr
   have HR := Hi hr
   clear hr r0 r1 r2 r3 p0 p1 p2 p3
   go_wp2_with (go_at_call 58; refine HL.out.mono ?_; intro e w2 hq; obtain ⟨rfl, hb⟩ := look_gone hq HR.out; have hRR2 := (hb.block (w.heap.size + 1) (by have := HSZ.out; omega)).trans HRR.out; have HB2 := Hi (HB.out.trans (hb.mono HB.out.size)); have r0 := cells_at hRR2 0 _ rfl; have r1 := cells_at hRR2 1 _ rfl; have r2 := cells_at hRR2 2 _ rfl; have r3 := cells_at hRR2 3 _ rfl; have p0 := frozen_of_row w2 (w.heap.size + 1) 0 _ _ hRR2; have p1 := frozen_of_row w2 (w.heap.size + 1) 1 _ _ hRR2; have p2 := frozen_of_row w2 (w.heap.size + 1) 2 _ _ hRR2; have p3 := frozen_of_row w2 (w.heap.size + 1) 3 _ _ hRR2; clear hb hRR2 hq)
   refine bodyPost_ret (v := .tuple #[.agg #[.int .u8 0, .int .i64 0, .string ⟨#[]⟩, .slice none 0 0], .bool false]) (by simp [results, Tryz.f57, go_sem, r0, r1, r2, r3]) rfl ?_
   exact ⟨rfl, ((((HB2.out.setCell (p := ⟨w.heap.size + 1, 0, none⟩) (by simp) (.int .u8 0)).setCell (p := ⟨w.heap.size + 1, 1, none⟩) (by simp) (.int .i64 0)).setCell (p := ⟨w.heap.size + 1, 2, none⟩) (by simp) (.string ⟨#[]⟩)).setCell (p := ⟨w.heap.size + 1, 3, none⟩) (by simp) (.slice none 0 0))⟩
 · clear hr
   go_wp2
   refine bodyPost_ret (v := .tuple #[.agg #[.int .u8 0, .int .i64 0, .string ⟨#[]⟩, .slice none 0 0], .bool false]) (by simp [results, Tryz.f57, go_sem, r0, r1, r2, r3]) rfl ?_
   exact ⟨rfl, ((((HB.out.setCell (p := ⟨w.heap.size + 1, 0, none⟩) (by simp) (.int .u8 0)).setCell (p := ⟨w.heap.size + 1, 1, none⟩) (by simp) (.int .i64 0)).setCell (p := ⟨w.heap.size + 1, 2, none⟩) (by simp) (.string ⟨#[]⟩)).setCell (p := ⟨w.heap.size + 1, 3, none⟩) (by simp) (.slice none 0 0))⟩
theorem apply1_some (b : Bd) (hs : Srt b) (hlen : b.length ≤ 1000000) (P : Nat) (v : Value) (n : Int) (s : ByteArray) (a : Option Addr) (l c : Nat) (u : Tm) (w0 w : World) (hb0 : Below w0.heap.size w0 w) (hp : w0.cell? ⟨P, 0, none⟩ = some v) (hv : BdV w0 v b) (hr : lookB b s = some u) :
   Calls Tryz.prog 57 #[.agg #[.int .u8 3, .int .i64 n, .string s, .slice a l c], .pointer (some ⟨P, 0, none⟩)] w fun e w' => ∃ k2 n2 s2 a2 l2 c2, e = .returned (.tuple #[.agg #[.int .u8 k2, .int .i64 n2, .string s2, .slice a2 l2 c2], .bool true]) ∧ IsTm w0.heap.size w0 (.int .u8 k2) (.int .i64 n2) (.string s2) (.slice a2 l2 c2) u ∧ Below w.heap.size w w' := by
 have hP := block_lt hp
 have z00 := hb0.size
 obtain ⟨W0, hW0⟩ : ∃ W0, (w.alloc (.cells #[.int .u8 3, .int .i64 n, .string s, .slice a l c] 24)).alloc (.cells #[.int .u8 0, .int .i64 0, .string ⟨#[]⟩, .slice none 0 0] 24) = W0 := ⟨_, rfl⟩
 have hB : Below w.heap.size w W0 := by rw [← hW0]; exact ((Below.refl _ w).alloc (Nat.le_refl _) _).alloc (by simp) _
 have hRR : W0.heap[w.heap.size + 1]? = some (.cells #[.int .u8 0, .int .i64 0, .string ⟨#[]⟩, .slice none 0 0] 24 (0, 0)) := by
   rw [← hW0]; have := World.alloc_heap_new (w.alloc (.cells #[.int .u8 3, .int .i64 n, .string s, .slice a l c] 24)) (.cells #[.int .u8 0, .int .i64 0, .string ⟨#[]⟩, .slice none 0 0] 24); rwa [World.size_alloc] at this
 have hR0 : W0.heap[w.heap.size]? = some (.cells #[.int .u8 3, .int .i64 n, .string s, .slice a l c] 24 (0, 0)) := by
   rw [← hW0]; exact (Below.heap_alloc _ _ _ (by simp)).trans (World.alloc_heap_new _ _)
 have x0 := cells_at hR0 0 _ rfl
 have x2 := cells_at hR0 2 _ rfl
 have xp := ((hb0.trans (hB.mono z00)).cell (p := ⟨P, 0, none⟩) hP).trans hp
 have HL := Hi (lookup_at b hs s v w0 W0 hv (hb0.trans (hB.mono z00)) hlen)
 have HB := Hi hB
 have HRR := Hi hRR
 have hsz : w.heap.size + 2 = W0.heap.size := by rw [← hW0]; simp
 have HSZ := Hi hsz
 have HR := Hi hr
 obtain ⟨va, vn, vc, rfl⟩ : ∃ va vn vc, v = .slice va vn vc := by obtain ⟨a, c, e, _⟩ := hv; exact ⟨_, _, _, e⟩
 clear hB hRR hR0 hv hs hsz hr
 go_enter Tryz.func57, Tryz.ntmps57
 go_wp2_with (go_at_call 58; refine HL.out.mono ?_; intro e w2 hq; obtain ⟨k2, n2, s2, a2, l2, c2, rfl, hi, hb⟩ := look_there hq HR.out; have hRR2 := (hb.block (w.heap.size + 1) (by have := HSZ.out; omega)).trans HRR.out; have HB2 := Hi (HB.out.trans (hb.mono HB.out.size)); have HI := Hi hi; have r0 := cells_at hRR2 0 _ rfl; have r1 := cells_at hRR2 1 _ rfl; have r2 := cells_at hRR2 2 _ rfl; have r3 := cells_at hRR2 3 _ rfl; have p0 := frozen_of_row w2 (w.heap.size + 1) 0 _ _ hRR2; have p1 := frozen_of_row w2 (w.heap.size + 1) 1 _ _ hRR2; have p2 := frozen_of_row w2 (w.heap.size + 1) 2 _ _ hRR2; have p3 := frozen_of_row w2 (w.heap.size + 1) 3 _ _ hRR2; clear hb hRR2 hq hi)
 refine bodyPost_ret (v := .tuple #[.agg #[.int .u8 k2, .int .i64 n2, .string s2, .slice a2 l2 c2], .bool true]) (by simp [results, Tryz.f57, go_sem, r0, r1, r2, r3]) rfl ?_
 exact ⟨_, _, _, _, _, _, rfl, HI.out, ((((HB2.out.setCell (p := ⟨w.heap.size + 1, 0, none⟩) (by simp) (.int .u8 k2)).setCell (p := ⟨w.heap.size + 1, 1, none⟩) (by simp) (.int .i64 n2)).setCell (p := ⟨w.heap.size + 1, 2, none⟩) (by simp) (.string s2)).setCell (p := ⟨w.heap.size + 1, 3, none⟩) (by simp) (.slice a2 l2 c2))⟩
def TClone (t : Tm) : Prop := ∀ (c0 c1 c2 c3 : Value) (w : World), IsTm w.heap.size w c0 c1 c2 c3 t → t.count ≤ 1000000 → Calls Tryz.prog 56 #[.agg #[c0, c1, c2, c3], .func (.func 100) #[] #[]] w (DetPost (t) w)
theorem tclone_any (t : Tm) : TClone t := by
 induction t using Tm.ind with
 | h k n s us ih =>
   intro c0 c1 c2 c3 w h hcn
   have hTT := h
   simp only [IsTm] at h
   obtain ⟨rfl, hk, rfl, hn, rfl, hss, a, cap, rfl, hl, ha⟩ := h
   simp only [Tm.count] at hcn
   have hus := len_countL us
   have hw1 : us.length ≤ 1000000 := by omega
   have HA := Hi ha
   have HIH := Hi ih
   have HCU := Hi (show ∀ t ∈ us, t.count ≤ 1000000 from fun t ht => by have := count_mem ht; omega)
   obtain ⟨W0, hW0⟩ : ∃ W0, (w.alloc (.cells #[.int .u8 k, .int .i64 n, .string s, .slice a us.length cap] 24)).alloc (.cells #[.int .u8 0, .int .i64 0, .string ⟨#[]⟩, .slice none 0 0] 24) = W0 := ⟨_, rfl⟩
   have hb0 : Below w.heap.size w W0 := by rw [← hW0]; exact ((Below.refl _ w).alloc (Nat.le_refl _) _).alloc (by simp) _
   have hsz : W0.heap.size = w.heap.size + 2 := by rw [← hW0]; simp
   have hN : W0.heap[w.heap.size]? = some (.cells #[.int .u8 k, .int .i64 n, .string s, .slice a us.length cap] 24 (0, 0)) := by
     rw [← hW0]; exact (Below.heap_alloc _ _ _ (by simp)).trans (World.alloc_heap_new _ _)
   have hR : W0.heap[w.heap.size + 1]? = some (.cells #[.int .u8 0, .int .i64 0, .string ⟨#[]⟩, .slice none 0 0] 24 (0, 0)) := by
     rw [← hW0]; have := World.alloc_heap_new (w.alloc (.cells #[.int .u8 k, .int .i64 n, .string s, .slice a us.length cap] 24)) (.cells #[.int .u8 0, .int .i64 0, .string ⟨#[]⟩, .slice none 0 0] 24); rwa [World.size_alloc] at this
   have HN := Hi hN
   have HR := Hi hR
   have y0 := cells_at hN 0 _ rfl
   have y1 := cells_at hN 1 _ rfl
   have y2 := cells_at hN 2 _ rfl
   have y3 := cells_at hN 3 _ rfl
   clear ha ih hus hcn hN hR
   obtain ⟨i0, hi, hz0, hz1, hz2⟩ := info_parts info_term
   clear hTT
   have HC1 := Hi (clone1_any k n s a us.length cap W0)
   go_enter Tryz.func56, Tryz.ntmps56
   go_wp2_with (go_at_call 100; refine HC1.out.mono ?_; rintro e W1 ⟨rfl, hb1⟩; have hB1 := hb1.alloc hb1.size (.cells #[.int .u8 0, .int .i64 0, .string ⟨#[]⟩, .slice none 0 0] 24); have x3 := (hB1.cell (p := ⟨w.heap.size, 3, none⟩) (by show w.heap.size < _; omega)).trans (cells_at HN.out 3 _ rfl))
   obtain ⟨W2, hW2⟩ : ∃ W2, W1.alloc (.cells #[.int .u8 0, .int .i64 0, .string ⟨#[]⟩, .slice none 0 0] 24) = W2 := ⟨_, rfl⟩
   rw [hW2] at hB1 x3 ⊢
   have hN2 := (hB1.block w.heap.size (by omega)).trans HN.out
   have hR2 := (hB1.block (w.heap.size + 1) (by omega)).trans HR.out
   have hb2 := hb0.trans (hB1.mono hb0.size)
   have hs2 : w.heap.size + 2 ≤ W2.heap.size := by have := hB1.size; omega
   clear hW2 hB1 hb1 y0 y1 y2 y3 HC1
   go_wp2_with fail
   go_loopw [7, 22] (fun v i wr => ∃ j : Nat, j ≤ us.length ∧ i = .int .i64 j ∧ Vals none W2.heap.size wr v ((us.take j).map id) ∧ Below W2.heap.size W2 wr) (fun _ i _ => us.length - (intOf i).toNat)
   case atStart => exact ⟨0, Nat.zero_le _, rfl, Vals.nil _ _ _, Below.refl _ _⟩
   case round =>
     obtain ⟨j, hj, rfl, hV, hBl⟩ := hrel
     have hBw := hb2.trans (hBl.mono hb2.size)
     by_cases hlt : j < us.length
     · obtain ⟨bk, off, rfl, hbk', hI⟩ := HA.out (by intro e; rw [e] at hlt; simp at hlt)
       obtain ⟨c0, c1, c2, c3, e0, e1, e2, e3, hc⟩ := hI.at j hlt
       have g0 := (hBw.cell (p := ⟨bk, off + j * 4, none⟩) (by show bk < _; omega)).trans e0
       have g1 := (hBw.cell (p := ⟨bk, off + j * 4 + 1, none⟩) (by show bk < _; omega)).trans e1
       have g2 := (hBw.cell (p := ⟨bk, off + j * 4 + 2, none⟩) (by show bk < _; omega)).trans e2
       have g3 := (hBw.cell (p := ⟨bk, off + j * 4 + 3, none⟩) (by show bk < _; omega)).trans e3
       have hih := HIH.out us[j] (List.getElem_mem hlt)
       have hwf := HCU.out us[j] (List.getElem_mem hlt)
       have htk : (us.take (j + 1)).map id = (us.take j).map id ++ [id us[j]] := by rw [List.take_succ_eq_append_getElem hlt, List.map_append]; rfl
       obtain ⟨u, hq⟩ : ∃ u, us[j] = u := ⟨_, rfl⟩
       rw [hq] at hc hih hwf htk
       obtain ⟨fu, hfu⟩ : ∃ fu, id u = fu := ⟨_, rfl⟩
       rw [hfu] at htk
       obtain ⟨k', n', s', as'⟩ := u
       have hc0 := hc
       simp only [IsTm] at hc
       obtain ⟨rfl, _, rfl, hn', rfl, _, a', cap', rfl, _, _⟩ := hc
       have hA : Below wr.heap.size wr (wr.alloc (.cells #[.int .u8 k', .int .i64 n', .string s', .slice a' as'.length cap'] 24)) := (Below.refl _ wr).alloc (Nat.le_refl _) _
       have hBA := hBw.trans (hA.mono hBw.size)
       have hp0 := hih _ _ _ _ _ ((hc0.below hBA).mono hBA.size) hwf
       rw [show (Tm.mk k' n' s' as') = fu from hfu] at hp0
       obtain ⟨k3, n3, s3, as3⟩ := fu
       have HP := Hi hp0
       obtain ⟨xs, hO, hH, _⟩ := hV
       have htl : ((us.take j).map id).length = j := by simp; omega
       obtain ⟨TS, hTS⟩ : ∃ TS, (us.take j).map id = TS := ⟨_, rfl⟩
       rw [hTS] at htl hO hH htk
       clear hTS hp0 hfu
       have HO := Hi hO
       have HH := Hi hH
       have HT := Hi htk
       have HHA := Hi hA
       have HBL := Hi hBl
       clear e0 e1 e2 e3 hih hwf htk hc0 hI hA hBA hO hH hBl hBw
       have i1 : (0 : Int) ≤ (j : Int) := by omega
       have i2 : (j : Int) < (us.length : Int) := by omega
       go_wp2_with (first | (go_at_call 56; refine HP.out.mono ?_; clear HP; rintro e W3 ⟨y0, y1, y2, y3, rfl, hv2, h4⟩; have hv3 := hv2; simp only [IsTmIn] at hv3; obtain ⟨rfl, _, rfl, _, rfl, _, a2, cap2, rfl, _, _⟩ := hv3) | (at_builtin; refine wpList_append_own_at _ rfl _ _ 22 rfl W2.heap.size 24 i0 _ 4 56 Tryz.underlying22 hi hz0 hz1 hz2 rfl (by decide) u7 TS.length xs rfl ?c0 _ 1 1 [.int .u8 k3, .int .i64 n3, .string s3, .slice a2 as3.length cap2] rfl rfl ?c1 ?c2 ?c3 ?c4 ?c5 ?_))
       case c2 => simp [Value.oneCell']
       case c3 => unfold maxLen; omega
       case c4 => omega
       case c5 => have := HBL.out.size; have := HHA.out.size; have := h4.size; simp; omega
       case c1 =>
         intro jj u' hu'
         have hn := World.alloc_heap_new W3 (.cells #[.int .u8 k3, .int .i64 n3, .string s3, .slice a2 as3.length cap2] 24)
         rcases jj with _ | _ | _ | _ | jj
         · cases hu'; exact cells_at hn 0 _ rfl
         · cases hu'; exact cells_at hn 1 _ rfl
         · cases hu'; exact cells_at hn 2 _ rfl
         · cases hu'; exact cells_at hn 3 _ rfl
         · simp at hu'
       case c0 => exact own_grown (own_grown HO.out HHA.out) (h4.alloc h4.size _)
       intro v' w' hown' hgrow _ hat
       have hBel := HHA.out.trans ((h4.alloc h4.size (.cells #[.int .u8 k3, .int .i64 n3, .string s3, .slice a2 as3.length cap2] 24)).mono HHA.out.size)
       have z1 := HHA.out.size
       have z2 := h4.size
       have zA := hBel.size
       have zL := HBL.out.size
       have hV' : Vals none W2.heap.size w' v' (TS ++ [.mk k3 n3 s3 as3]) := Vals.app (ts := TS) (us := [.mk k3 n3 s3 as3]) (HH.out.keep fun b hf => ⟨⟨hf.1, Nat.lt_of_lt_of_le hf.2.1 zA, hf.2.2⟩, hBel.block b hf.2.1⟩) (fun g e => by cases e)
         (HoldL.one (hv2.keep fun b hf => ⟨⟨by omega, by simp; omega, fun e => by have := (HO.out.lt b e).2; omega, by simp⟩, Below.heap_alloc _ _ _ hf.2⟩)) (by rw [htl]; exact hown') hgrow (by rw [World.size_alloc]; exact hat)
       have hBw : Below W2.heap.size W2 w' := (HBL.out.trans (hBel.mono zL)).grown hgrow (by omega) (fun k e => (HO.out.lt k e).1)
       have HF := Hi (show ∃ j' : Nat, j' ≤ us.length ∧ (Value.int .i64 ((j + 1 : Nat) : Int)) = .int .i64 j' ∧ Vals none W2.heap.size w' v' ((us.take j').map id) ∧ Below W2.heap.size W2 w' from ⟨j + 1, by omega, rfl, by rw [HT.out]; exact hV', hBw⟩)
       clear hown' hgrow hat hBel hV' hBw HH HO HT
       go_wp2
       go_roundw
       case rel => exact HF.out
       case measure => simp [intOf]; omega
     · have hje : j = us.length := by omega
       subst hje
       rw [List.take_of_length_le (Nat.le_refl _)] at hV
       have hN' := (hBl.block w.heap.size (by omega)).trans hN2
       have hR' := (hBl.block (w.heap.size + 1) (by omega)).trans hR2
       obtain ⟨va, vn, vc, hva⟩ := hV.slice
       subst hva
       have HV := Hi hV
       have HBW := Hi hBw
       have HZL := Hi hBl.size
       have y0 := cells_at hN' 0 _ rfl
       have y1 := cells_at hN' 1 _ rfl
       have y2 := cells_at hN' 2 _ rfl
       have y3 := cells_at hN' 3 _ rfl
       have q0 := cells_at hR' 0 _ rfl
       have q1 := cells_at hR' 1 _ rfl
       have q2 := cells_at hR' 2 _ rfl
       have q3 := cells_at hR' 3 _ rfl
       have f3 := frozen_of_row wr w.heap.size 3 _ _ hN'
       have p0 := frozen_of_row wr (w.heap.size + 1) 0 _ _ hR'
       have p1 := frozen_of_row wr (w.heap.size + 1) 1 _ _ hR'
       have p2 := frozen_of_row wr (w.heap.size + 1) 2 _ _ hR'
       have p3 := frozen_of_row wr (w.heap.size + 1) 3 _ _ hR'
       clear hV hBw hBl hN' hR' hN2 hR2
       have hrow := HV.out.rowIn (Nat.le_refl _)
       have hkp : ∀ b, (W2.heap.size ≤ b ∧ b < wr.heap.size) → (((((wr.setCell ⟨w.heap.size, 3, none⟩ (.slice va vn vc)).setCell ⟨w.heap.size + 1, 0, none⟩ (.int .u8 k)).setCell ⟨w.heap.size + 1, 1, none⟩ (.int .i64 n)).setCell ⟨w.heap.size + 1, 2, none⟩ (.string s)).setCell ⟨w.heap.size + 1, 3, none⟩ (.slice va vn vc)).heap[b]? = wr.heap[b]? := fun b hb =>
         (Below.heap_setCell _ _ _ b (by simp; omega)).trans ((Below.heap_setCell _ _ _ b (by simp; omega)).trans ((Below.heap_setCell _ _ _ b (by simp; omega)).trans ((Below.heap_setCell _ _ _ b (by simp; omega)).trans (Below.heap_setCell _ _ _ b (by simp; omega)))))
       have hrow' := hrow.keep (ok' := fun b => w.heap.size ≤ b ∧ b < (((((wr.setCell ⟨w.heap.size, 3, none⟩ (.slice va vn vc)).setCell ⟨w.heap.size + 1, 0, none⟩ (.int .u8 k)).setCell ⟨w.heap.size + 1, 1, none⟩ (.int .i64 n)).setCell ⟨w.heap.size + 1, 2, none⟩ (.string s)).setCell ⟨w.heap.size + 1, 3, none⟩ (.slice va vn vc)).heap.size) (fun b hb => ⟨⟨by omega, by simp [World.setCell]; omega⟩, hkp b hb⟩)
       have HRW := Hi hrow'
       have HBF := Hi (((((HBW.out.setCell (p := ⟨w.heap.size, 3, none⟩) (Nat.le_refl _) (.slice va vn vc)).setCell (p := ⟨w.heap.size + 1, 0, none⟩) (by simp) (.int .u8 k)).setCell (p := ⟨w.heap.size + 1, 1, none⟩) (by simp) (.int .i64 n)).setCell (p := ⟨w.heap.size + 1, 2, none⟩) (by simp) (.string s)).setCell (p := ⟨w.heap.size + 1, 3, none⟩) (by simp) (.slice va vn vc))
       clear hrow hrow' hkp
       go_wp2
       refine bodyPost_ret (v := .agg #[.int .u8 k, .int .i64 n, .string s, .slice va vn vc]) (by simp [results, Tryz.f56, go_sem, q0, q1, q2, q3]) rfl ?_
       refine ⟨_, _, _, _, rfl, ?_, HBF.out⟩
       simp only [IsTmIn]
       obtain ⟨a', cap', e1, e2, e3⟩ := HRW.out
       exact ⟨trivial, hk, trivial, hn, trivial, hss, a', cap', by simpa using e1, by simpa using e2, by simpa using e3⟩
theorem mclone_any (t : Tm) (c0 c1 c2 c3 : Value) (w : World) (h : IsTm w.heap.size w c0 c1 c2 c3 t) (hc : t.count ≤ 1000000) : Calls Tryz.prog 69 #[.agg #[c0, c1, c2, c3]] w (DetPost t w) := by
 have h0 := h
 obtain ⟨k, n, s, us⟩ := t
 simp only [IsTm] at h
 obtain ⟨rfl, _, rfl, _, rfl, _, a, cap, rfl, _, _⟩ := h
 obtain ⟨W0, hW0⟩ : ∃ W0, (w.alloc (.cells #[.int .u8 k, .int .i64 n, .string s, .slice a us.length cap] 24)).alloc (.cells #[.int .u8 0, .int .i64 0, .string ⟨#[]⟩, .slice none 0 0] 24) = W0 := ⟨_, rfl⟩
 have hb0 : Below w.heap.size w W0 := by rw [← hW0]; exact ((Below.refl _ w).alloc (Nat.le_refl _) _).alloc (by simp) _
 have hsz : W0.heap.size = w.heap.size + 2 := by rw [← hW0]; simp
 have hN : W0.heap[w.heap.size]? = some (.cells #[.int .u8 k, .int .i64 n, .string s, .slice a us.length cap] 24 (0, 0)) := by
   rw [← hW0]; exact (Below.heap_alloc _ _ _ (by simp)).trans (World.alloc_heap_new _ _)
 have hR : W0.heap[w.heap.size + 1]? = some (.cells #[.int .u8 0, .int .i64 0, .string ⟨#[]⟩, .slice none 0 0] 24 (0, 0)) := by
   rw [← hW0]; have := World.alloc_heap_new (w.alloc (.cells #[.int .u8 k, .int .i64 n, .string s, .slice a us.length cap] 24)) (.cells #[.int .u8 0, .int .i64 0, .string ⟨#[]⟩, .slice none 0 0] 24); rwa [World.size_alloc] at this
 have y0 := cells_at hN 0 _ rfl
 have y1 := cells_at hN 1 _ rfl
 have y2 := cells_at hN 2 _ rfl
 have y3 := cells_at hN 3 _ rfl
 have HT := Hi (tclone_any _ _ _ _ _ W0 ((h0.below hb0).mono hb0.size) hc)
 have HR := Hi hR
 have HB0 := Hi hb0
 clear hN hR hb0 h0
 go_enter Tryz.func69, Tryz.ntmps69
 go_wp2_with (go_at_call 56; refine HT.out.mono ?_; rintro e W3 ⟨z0, z1, z2, z3, rfl, hv2, h4⟩; have hv3 := hv2; simp only [IsTmIn] at hv3; obtain ⟨rfl, _, rfl, _, rfl, _, a3, cap3, rfl, _, _⟩ := hv3; have hR3 := (h4.block (w.heap.size + 1) (by omega)).trans HR.out; have r0 := cells_at hR3 0 _ rfl; have r1 := cells_at hR3 1 _ rfl; have r2 := cells_at hR3 2 _ rfl; have r3 := cells_at hR3 3 _ rfl; have p0 := frozen_of_row W3 (w.heap.size + 1) 0 _ _ hR3; have p1 := frozen_of_row W3 (w.heap.size + 1) 1 _ _ hR3; have p2 := frozen_of_row W3 (w.heap.size + 1) 2 _ _ hR3; have p3 := frozen_of_row W3 (w.heap.size + 1) 3 _ _ hR3; have HV2 := Hi hv2; have HB3 := Hi (HB0.out.trans (h4.mono HB0.out.size)); clear hR3 hv2 h4)
 refine bodyPost_ret (v := .agg #[.int .u8 k, .int .i64 n, .string s, .slice a3 us.length cap3]) (by simp [results, Tryz.f69, go_sem, r0, r1, r2, r3]) rfl ?_
 refine ⟨_, _, _, _, rfl, ?_, ((((HB3.out.setCell (p := ⟨w.heap.size + 1, 0, none⟩) (by simp) (.int .u8 k)).setCell (p := ⟨w.heap.size + 1, 1, none⟩) (by simp) (.int .i64 n)).setCell (p := ⟨w.heap.size + 1, 2, none⟩) (by simp) (.string s)).setCell (p := ⟨w.heap.size + 1, 3, none⟩) (by simp) (.slice a3 us.length cap3))⟩
 exact HV2.out.keep fun b hf => ⟨⟨by have := HB0.out.size; omega, by simp [World.setCell]; exact hf.2⟩, (Below.heap_setCell _ _ _ b (by simp; have := hf.1; omega)).trans ((Below.heap_setCell _ _ _ b (by simp; have := hf.1; omega)).trans ((Below.heap_setCell _ _ _ b (by simp; have := hf.1; omega)).trans (Below.heap_setCell _ _ _ b (by simp; have := hf.1; omega))))⟩
def TApply (b : Bd) (P : Nat) (_ : Value) (w0 : World) (t : Tm) : Prop := ∀ (c0 c1 c2 c3 : Value) (w : World), Below w0.heap.size w0 w → IsTm w.heap.size w c0 c1 c2 c3 t → t.count ≤ 1000000 → Calls Tryz.prog 56 #[.agg #[c0, c1, c2, c3], .func (.func 57) #[] #[.pointer (some ⟨P, 0, none⟩)]] w (DetPost (applyT b t) w)
theorem tapply_any (b : Bd) (P : Nat) (v0 : Value) (w0 : World)  (hs : Srt b) (hlen : b.length ≤ 1000000) (hp : w0.cell? ⟨P, 0, none⟩ = some v0) (hv0 : BdV w0 v0 b) (hcb : ∀ x ∈ b, x.2.count ≤ 1000000) (t : Tm) : TApply b P v0 w0 t := by
 induction t using Tm.ind with
 | h k n s us ih =>
   intro c0 c1 c2 c3 w hw0 h hcn
   have hTT := h
   simp only [IsTm] at h
   obtain ⟨rfl, hk, rfl, hn, rfl, hss, a, cap, rfl, hl, ha⟩ := h
   simp only [Tm.count] at hcn
   have hus := len_countL us
   have hw1 : us.length ≤ 1000000 := by omega
   have HA := Hi ha
   have HIH := Hi ih
   have HCU := Hi (show ∀ t ∈ us, t.count ≤ 1000000 from fun t ht => by have := count_mem ht; omega)
   obtain ⟨W0, hW0⟩ : ∃ W0, (w.alloc (.cells #[.int .u8 k, .int .i64 n, .string s, .slice a us.length cap] 24)).alloc (.cells #[.int .u8 0, .int .i64 0, .string ⟨#[]⟩, .slice none 0 0] 24) = W0 := ⟨_, rfl⟩
   have hb0 : Below w.heap.size w W0 := by rw [← hW0]; exact ((Below.refl _ w).alloc (Nat.le_refl _) _).alloc (by simp) _
   have hsz : W0.heap.size = w.heap.size + 2 := by rw [← hW0]; simp
   have hN : W0.heap[w.heap.size]? = some (.cells #[.int .u8 k, .int .i64 n, .string s, .slice a us.length cap] 24 (0, 0)) := by
     rw [← hW0]; exact (Below.heap_alloc _ _ _ (by simp)).trans (World.alloc_heap_new _ _)
   have hR : W0.heap[w.heap.size + 1]? = some (.cells #[.int .u8 0, .int .i64 0, .string ⟨#[]⟩, .slice none 0 0] 24 (0, 0)) := by
     rw [← hW0]; have := World.alloc_heap_new (w.alloc (.cells #[.int .u8 k, .int .i64 n, .string s, .slice a us.length cap] 24)) (.cells #[.int .u8 0, .int .i64 0, .string ⟨#[]⟩, .slice none 0 0] 24); rwa [World.size_alloc] at this
   have HN := Hi hN
   have HR := Hi hR
   have y0 := cells_at hN 0 _ rfl
   have y1 := cells_at hN 1 _ rfl
   have y2 := cells_at hN 2 _ rfl
   have y3 := cells_at hN 3 _ rfl
   clear ha ih hus hcn hN hR
   obtain ⟨i0, hi, hz0, hz1, hz2⟩ := info_parts info_term
   have HW0 := Hi hw0
   have HTT := Hi hTT
   clear hw0 hTT
   cases hrep : repB b (.mk k n s us) with
   | some u =>
     have hk3 : k = 3 := by
       simp only [repB] at hrep
       split at hrep
       · assumption
       · cases hrep
     subst hk3
     have hlu : lookB b s = some u := by simpa only [repB, if_true] using hrep
     have HAP := Hi (applyT_some hrep)
     have hcu := hcb _ (look_mem hlu)
     have HC1 := Hi (apply1_some b hs hlen P v0 n s a us.length cap u w0 W0 (HW0.out.trans (hb0.mono HW0.out.size)) hp hv0 hlu)
     clear hrep hlu
     obtain ⟨ku, nu, su, uu⟩ := u
     go_enter Tryz.func56, Tryz.ntmps56
     go_wp2_with (first | (go_at_call 69; refine (HCL.out _ _ _ _ _ HI2.out).mono ?_; rintro e W3 ⟨z0, z1, z2, z3, rfl, hv2, h4⟩; have hv3 := hv2; simp only [IsTmIn] at hv3; obtain ⟨rfl, _, rfl, _, rfl, _, a3, cap3, rfl, _, _⟩ := hv3; have hR3 := (h4.block (w.heap.size + 1) (by have := HB1.out.size; omega)).trans ((HB1.out.block (w.heap.size + 1) (by omega)).trans HR.out); have r0 := cells_at hR3 0 _ rfl; have r1 := cells_at hR3 1 _ rfl; have r2 := cells_at hR3 2 _ rfl; have r3 := cells_at hR3 3 _ rfl; have p0 := frozen_of_row W3 (w.heap.size + 1) 0 _ _ hR3; have p1 := frozen_of_row W3 (w.heap.size + 1) 1 _ _ hR3; have p2 := frozen_of_row W3 (w.heap.size + 1) 2 _ _ hR3; have p3 := frozen_of_row W3 (w.heap.size + 1) 3 _ _ hR3; have HV2 := Hi hv2; have HB3 := Hi (HB2.out.trans (h4.mono HB2.out.size)); have HS4 := Hi h4.size; clear hR3 hv2 h4) | (go_at_call 57; refine HC1.out.mono ?_; rintro e W1 ⟨k2, n2, s2, a2, l2, c2, rfl, hi2, hb1⟩; have hB1 := hb1.alloc hb1.size (.cells #[.int .u8 k2, .int .i64 n2, .string s2, .slice a2 l2 c2] 24); have HB1 := Hi hB1; have HB2 := Hi (hb0.trans (hB1.mono hb0.size)); have HI2 := Hi (((hi2.below (HW0.out.trans (HB2.out.mono HW0.out.size)))).mono (Nat.le_trans HW0.out.size HB2.out.size)); have HCL := Hi (fun d0 d1 d2 d3 W (h : IsTm W.heap.size W d0 d1 d2 d3 (.mk ku nu su uu)) => mclone_any _ d0 d1 d2 d3 W h hcu); clear hb1 hB1 hi2))
     refine bodyPost_ret (v := .agg #[.int .u8 ku, .int .i64 nu, .string su, .slice a3 uu.length cap3]) (by simp [results, Tryz.f56, go_sem, r0, r1, r2, r3]) rfl ?_
     rw [HAP.out]
     refine ⟨_, _, _, _, rfl, ?_, ((((HB3.out.setCell (p := ⟨w.heap.size + 1, 0, none⟩) (by simp) (.int .u8 ku)).setCell (p := ⟨w.heap.size + 1, 1, none⟩) (by simp) (.int .i64 nu)).setCell (p := ⟨w.heap.size + 1, 2, none⟩) (by simp) (.string su)).setCell (p := ⟨w.heap.size + 1, 3, none⟩) (by simp) (.slice a3 uu.length cap3))⟩
     exact HV2.out.keep fun b hf => ⟨⟨by have := HB2.out.size; omega, by simp [World.setCell]; exact hf.2⟩, (Below.heap_setCell _ _ _ b (by simp; have := hf.1; have := HB1.out.size; omega)).trans ((Below.heap_setCell _ _ _ b (by simp; have := hf.1; have := HB1.out.size; omega)).trans ((Below.heap_setCell _ _ _ b (by simp; have := hf.1; have := HB1.out.size; omega)).trans (Below.heap_setCell _ _ _ b (by simp; have := hf.1; have := HB1.out.size; omega))))⟩
   | none =>
     have HAP := Hi (applyT_none hrep)
     have HC1 := Hi (apply1_none b hs hlen P v0 k n s a us.length cap w0 W0 (HW0.out.trans (hb0.mono HW0.out.size)) hp hv0 (by simpa only [repB] using hrep))
     clear hrep
     go_enter Tryz.func56, Tryz.ntmps56
     go_wp2_with (go_at_call 57; refine HC1.out.mono ?_; rintro e W1 ⟨rfl, hb1⟩; have hB1 := hb1.alloc hb1.size (.cells #[.int .u8 0, .int .i64 0, .string ⟨#[]⟩, .slice none 0 0] 24); have x3 := (hB1.cell (p := ⟨w.heap.size, 3, none⟩) (by show w.heap.size < _; omega)).trans (cells_at HN.out 3 _ rfl))
     obtain ⟨W2, hW2⟩ : ∃ W2, W1.alloc (.cells #[.int .u8 0, .int .i64 0, .string ⟨#[]⟩, .slice none 0 0] 24) = W2 := ⟨_, rfl⟩
     rw [hW2] at hB1 x3 ⊢
     have hN2 := (hB1.block w.heap.size (by omega)).trans HN.out
     have hR2 := (hB1.block (w.heap.size + 1) (by omega)).trans HR.out
     have hb2 := hb0.trans (hB1.mono hb0.size)
     have hs2 : w.heap.size + 2 ≤ W2.heap.size := by have := hB1.size; omega
     clear hW2 hB1 hb1 y0 y1 y2 y3 HC1
     go_wp2_with fail
     go_loopw [7, 22] (fun v i wr => ∃ j : Nat, j ≤ us.length ∧ i = .int .i64 j ∧ Vals none W2.heap.size wr v ((us.take j).map (applyT b)) ∧ Below W2.heap.size W2 wr) (fun _ i _ => us.length - (intOf i).toNat)
     case atStart => exact ⟨0, Nat.zero_le _, rfl, Vals.nil _ _ _, Below.refl _ _⟩
     case round =>
       obtain ⟨j, hj, rfl, hV, hBl⟩ := hrel
       have hBw := hb2.trans (hBl.mono hb2.size)
       by_cases hlt : j < us.length
       · obtain ⟨bk, off, rfl, hbk', hI⟩ := HA.out (by intro e; rw [e] at hlt; simp at hlt)
         obtain ⟨c0, c1, c2, c3, e0, e1, e2, e3, hc⟩ := hI.at j hlt
         have g0 := (hBw.cell (p := ⟨bk, off + j * 4, none⟩) (by show bk < _; omega)).trans e0
         have g1 := (hBw.cell (p := ⟨bk, off + j * 4 + 1, none⟩) (by show bk < _; omega)).trans e1
         have g2 := (hBw.cell (p := ⟨bk, off + j * 4 + 2, none⟩) (by show bk < _; omega)).trans e2
         have g3 := (hBw.cell (p := ⟨bk, off + j * 4 + 3, none⟩) (by show bk < _; omega)).trans e3
         have hih := HIH.out us[j] (List.getElem_mem hlt)
         have hwf := HCU.out us[j] (List.getElem_mem hlt)
         have htk : (us.take (j + 1)).map (applyT b) = (us.take j).map (applyT b) ++ [(applyT b) us[j]] := by rw [List.take_succ_eq_append_getElem hlt, List.map_append]; rfl
         obtain ⟨u, hq⟩ : ∃ u, us[j] = u := ⟨_, rfl⟩
         rw [hq] at hc hih hwf htk
         obtain ⟨fu, hfu⟩ : ∃ fu, (applyT b) u = fu := ⟨_, rfl⟩
         rw [hfu] at htk
         obtain ⟨k', n', s', as'⟩ := u
         have hc0 := hc
         simp only [IsTm] at hc
         obtain ⟨rfl, _, rfl, hn', rfl, _, a', cap', rfl, _, _⟩ := hc
         have hA : Below wr.heap.size wr (wr.alloc (.cells #[.int .u8 k', .int .i64 n', .string s', .slice a' as'.length cap'] 24)) := (Below.refl _ wr).alloc (Nat.le_refl _) _
         have hBA := hBw.trans (hA.mono hBw.size)
         have hp0 := hih _ _ _ _ _ (HW0.out.trans (hBA.mono HW0.out.size)) ((hc0.below hBA).mono hBA.size) hwf
         rw [show (applyT b (.mk k' n' s' as')) = fu from hfu] at hp0
         obtain ⟨k3, n3, s3, as3⟩ := fu
         have HP := Hi hp0
         obtain ⟨xs, hO, hH, _⟩ := hV
         have htl : ((us.take j).map (applyT b)).length = j := by simp; omega
         obtain ⟨TS, hTS⟩ : ∃ TS, (us.take j).map (applyT b) = TS := ⟨_, rfl⟩
         rw [hTS] at htl hO hH htk
         clear hTS hp0 hfu
         have HO := Hi hO
         have HH := Hi hH
         have HT := Hi htk
         have HHA := Hi hA
         have HBL := Hi hBl
         clear e0 e1 e2 e3 hih hwf htk hc0 hI hA hBA hO hH hBl hBw
         have i1 : (0 : Int) ≤ (j : Int) := by omega
         have i2 : (j : Int) < (us.length : Int) := by omega
         go_wp2_with (first | (go_at_call 56; refine HP.out.mono ?_; clear HP; rintro e W3 ⟨y0, y1, y2, y3, rfl, hv2, h4⟩; have hv3 := hv2; simp only [IsTmIn] at hv3; obtain ⟨rfl, _, rfl, _, rfl, _, a2, cap2, rfl, _, _⟩ := hv3) | (at_builtin; refine wpList_append_own_at _ rfl _ _ 22 rfl W2.heap.size 24 i0 _ 4 56 Tryz.underlying22 hi hz0 hz1 hz2 rfl (by decide) u7 TS.length xs rfl ?c0 _ 1 1 [.int .u8 k3, .int .i64 n3, .string s3, .slice a2 as3.length cap2] rfl rfl ?c1 ?c2 ?c3 ?c4 ?c5 ?_))
         case c2 => simp [Value.oneCell']
         case c3 => unfold maxLen; omega
         case c4 => omega
         case c5 => have := HBL.out.size; have := HHA.out.size; have := h4.size; simp; omega
         case c1 =>
           intro jj u' hu'
           have hn := World.alloc_heap_new W3 (.cells #[.int .u8 k3, .int .i64 n3, .string s3, .slice a2 as3.length cap2] 24)
           rcases jj with _ | _ | _ | _ | jj
           · cases hu'; exact cells_at hn 0 _ rfl
           · cases hu'; exact cells_at hn 1 _ rfl
           · cases hu'; exact cells_at hn 2 _ rfl
           · cases hu'; exact cells_at hn 3 _ rfl
           · simp at hu'
         case c0 => exact own_grown (own_grown HO.out HHA.out) (h4.alloc h4.size _)
         intro v' w' hown' hgrow _ hat
         have hBel := HHA.out.trans ((h4.alloc h4.size (.cells #[.int .u8 k3, .int .i64 n3, .string s3, .slice a2 as3.length cap2] 24)).mono HHA.out.size)
         have z1 := HHA.out.size
         have z2 := h4.size
         have zA := hBel.size
         have zL := HBL.out.size
         have hV' : Vals none W2.heap.size w' v' (TS ++ [.mk k3 n3 s3 as3]) := Vals.app (ts := TS) (us := [.mk k3 n3 s3 as3]) (HH.out.keep fun b hf => ⟨⟨hf.1, Nat.lt_of_lt_of_le hf.2.1 zA, hf.2.2⟩, hBel.block b hf.2.1⟩) (fun g e => by cases e)
           (HoldL.one (hv2.keep fun b hf => ⟨⟨by omega, by simp; omega, fun e => by have := (HO.out.lt b e).2; omega, by simp⟩, Below.heap_alloc _ _ _ hf.2⟩)) (by rw [htl]; exact hown') hgrow (by rw [World.size_alloc]; exact hat)
         have hBw : Below W2.heap.size W2 w' := (HBL.out.trans (hBel.mono zL)).grown hgrow (by omega) (fun k e => (HO.out.lt k e).1)
         have HF := Hi (show ∃ j' : Nat, j' ≤ us.length ∧ (Value.int .i64 ((j + 1 : Nat) : Int)) = .int .i64 j' ∧ Vals none W2.heap.size w' v' ((us.take j').map (applyT b)) ∧ Below W2.heap.size W2 w' from ⟨j + 1, by omega, rfl, by rw [HT.out]; exact hV', hBw⟩)
         clear hown' hgrow hat hBel hV' hBw HH HO HT
         go_wp2
         go_roundw
         case rel => exact HF.out
         case measure => simp [intOf]; omega
       · have hje : j = us.length := by omega
         subst hje
         rw [List.take_of_length_le (Nat.le_refl _)] at hV
         have hN' := (hBl.block w.heap.size (by omega)).trans hN2
         have hR' := (hBl.block (w.heap.size + 1) (by omega)).trans hR2
         obtain ⟨va, vn, vc, hva⟩ := hV.slice
         subst hva
         have HV := Hi hV
         have HBW := Hi hBw
         have HZL := Hi hBl.size
         have y0 := cells_at hN' 0 _ rfl
         have y1 := cells_at hN' 1 _ rfl
         have y2 := cells_at hN' 2 _ rfl
         have y3 := cells_at hN' 3 _ rfl
         have q0 := cells_at hR' 0 _ rfl
         have q1 := cells_at hR' 1 _ rfl
         have q2 := cells_at hR' 2 _ rfl
         have q3 := cells_at hR' 3 _ rfl
         have f3 := frozen_of_row wr w.heap.size 3 _ _ hN'
         have p0 := frozen_of_row wr (w.heap.size + 1) 0 _ _ hR'
         have p1 := frozen_of_row wr (w.heap.size + 1) 1 _ _ hR'
         have p2 := frozen_of_row wr (w.heap.size + 1) 2 _ _ hR'
         have p3 := frozen_of_row wr (w.heap.size + 1) 3 _ _ hR'
         clear hV hBw hBl hN' hR' hN2 hR2
         have hrow := HV.out.rowIn (Nat.le_refl _)
         have hkp : ∀ b, (W2.heap.size ≤ b ∧ b < wr.heap.size) → (((((wr.setCell ⟨w.heap.size, 3, none⟩ (.slice va vn vc)).setCell ⟨w.heap.size + 1, 0, none⟩ (.int .u8 k)).setCell ⟨w.heap.size + 1, 1, none⟩ (.int .i64 n)).setCell ⟨w.heap.size + 1, 2, none⟩ (.string s)).setCell ⟨w.heap.size + 1, 3, none⟩ (.slice va vn vc)).heap[b]? = wr.heap[b]? := fun b hb =>
           (Below.heap_setCell _ _ _ b (by simp; omega)).trans ((Below.heap_setCell _ _ _ b (by simp; omega)).trans ((Below.heap_setCell _ _ _ b (by simp; omega)).trans ((Below.heap_setCell _ _ _ b (by simp; omega)).trans (Below.heap_setCell _ _ _ b (by simp; omega)))))
         have hrow' := hrow.keep (ok' := fun b => w.heap.size ≤ b ∧ b < (((((wr.setCell ⟨w.heap.size, 3, none⟩ (.slice va vn vc)).setCell ⟨w.heap.size + 1, 0, none⟩ (.int .u8 k)).setCell ⟨w.heap.size + 1, 1, none⟩ (.int .i64 n)).setCell ⟨w.heap.size + 1, 2, none⟩ (.string s)).setCell ⟨w.heap.size + 1, 3, none⟩ (.slice va vn vc)).heap.size) (fun b hb => ⟨⟨by omega, by simp [World.setCell]; omega⟩, hkp b hb⟩)
         have HRW := Hi hrow'
         have HBF := Hi (((((HBW.out.setCell (p := ⟨w.heap.size, 3, none⟩) (Nat.le_refl _) (.slice va vn vc)).setCell (p := ⟨w.heap.size + 1, 0, none⟩) (by simp) (.int .u8 k)).setCell (p := ⟨w.heap.size + 1, 1, none⟩) (by simp) (.int .i64 n)).setCell (p := ⟨w.heap.size + 1, 2, none⟩) (by simp) (.string s)).setCell (p := ⟨w.heap.size + 1, 3, none⟩) (by simp) (.slice va vn vc))
         clear hrow hrow' hkp
         go_wp2
         refine bodyPost_ret (v := .agg #[.int .u8 k, .int .i64 n, .string s, .slice va vn vc]) (by simp [results, Tryz.f56, go_sem, q0, q1, q2, q3]) rfl ?_
         refine ⟨_, _, _, _, rfl, ?_, HBF.out⟩
         rw [HAP.out]
         simp only [IsTmIn]
         obtain ⟨a', cap', e1, e2, e3⟩ := HRW.out
         exact ⟨trivial, hk, trivial, hn, trivial, hss, a', cap', e1, e2, e3⟩
end Go.Proofs.YtlmdhlckgbgfhaaGreatDoor
namespace Go.Proofs.YtlmdhlckgbgfhaaGreatDoor
open Go.RowKit Go.Shelf
attribute [local go_sem] Oper.semAt_some

theorem mapply_any (b : Bd) (hs : Srt b) (hlen : b.length ≤ 1000000) (hcb : ∀ x ∈ b, x.2.count ≤ 1000000) (v : Value) (t : Tm) (c0 c1 c2 c3 : Value) (w : World) (hv : BdV w v b) (h : IsTm w.heap.size w c0 c1 c2 c3 t) (hc : t.count ≤ 1000000) :
   Calls Tryz.prog 30 #[v, .agg #[c0, c1, c2, c3]] w (DetPost (applyT b t) w) := by
 have h0 := h
 obtain ⟨k, n, s, us⟩ := t
 simp only [IsTm] at h
 obtain ⟨rfl, _, rfl, _, rfl, _, a, cap, rfl, _, _⟩ := h
 obtain ⟨va, vn, vc, rfl⟩ : ∃ va vn vc, v = .slice va vn vc := by obtain ⟨a, c, e, _⟩ := hv; exact ⟨_, _, _, e⟩
 obtain ⟨W0, hW0⟩ : ∃ W0, ((w.alloc (.cells #[.slice va vn vc] 66)).alloc (.cells #[.int .u8 k, .int .i64 n, .string s, .slice a us.length cap] 24)).alloc (.cells #[.int .u8 0, .int .i64 0, .string ⟨#[]⟩, .slice none 0 0] 24) = W0 := ⟨_, rfl⟩
 have hb0 : Below w.heap.size w W0 := by rw [← hW0]; exact (((Below.refl _ w).alloc (Nat.le_refl _) _).alloc (by simp) _).alloc (by simp; omega) _
 have hsz : W0.heap.size = w.heap.size + 3 := by rw [← hW0]; simp
 have hP : W0.heap[w.heap.size]? = some (.cells #[.slice va vn vc] 66 (0, 0)) := by
   rw [← hW0]; exact (Below.heap_alloc _ _ _ (by simp; omega)).trans ((Below.heap_alloc _ _ _ (by simp)).trans (World.alloc_heap_new _ _))
 have hN : W0.heap[w.heap.size + 1]? = some (.cells #[.int .u8 k, .int .i64 n, .string s, .slice a us.length cap] 24 (0, 0)) := by
   rw [← hW0]; have := World.alloc_heap_new (w.alloc (.cells #[.slice va vn vc] 66)) (.cells #[.int .u8 k, .int .i64 n, .string s, .slice a us.length cap] 24); rw [World.size_alloc] at this; exact (Below.heap_alloc _ _ _ (by simp)).trans this
 have hR : W0.heap[w.heap.size + 2]? = some (.cells #[.int .u8 0, .int .i64 0, .string ⟨#[]⟩, .slice none 0 0] 24 (0, 0)) := by
   rw [← hW0]; have := World.alloc_heap_new ((w.alloc (.cells #[.slice va vn vc] 66)).alloc (.cells #[.int .u8 k, .int .i64 n, .string s, .slice a us.length cap] 24)) (.cells #[.int .u8 0, .int .i64 0, .string ⟨#[]⟩, .slice none 0 0] 24); rw [World.size_alloc, World.size_alloc] at this; exact this
 have y0 := cells_at hN 0 _ rfl
 have y1 := cells_at hN 1 _ rfl
 have y2 := cells_at hN 2 _ rfl
 have y3 := cells_at hN 3 _ rfl
 have HT := Hi (tapply_any b w.heap.size (.slice va vn vc) W0 hs hlen (cells_at hP 0 _ rfl) (hv.grow hb0) hcb _ _ _ _ _ W0 bR ((h0.below hb0).mono hb0.size) hc)
 obtain ⟨tq, htq⟩ : ∃ tq, applyT b (.mk k n s us) = tq := ⟨_, rfl⟩
 rw [htq] at HT ⊢
 obtain ⟨ku, nu, su, uu⟩ := tq
 have HR := Hi hR
 have HB0 := Hi hb0
 clear hN hR hb0 h0 hP hv htq
 go_enter Tryz.func30, Tryz.ntmps30
 go_wp2_with (go_at_call 56; refine HT.out.mono ?_; rintro e W3 ⟨z0, z1, z2, z3, rfl, hv2, h4⟩; have hv3 := hv2; simp only [IsTmIn] at hv3; obtain ⟨rfl, _, rfl, _, rfl, _, a3, cap3, rfl, _, _⟩ := hv3; have hR3 := (h4.block (w.heap.size + 2) (by omega)).trans HR.out; have r0 := cells_at hR3 0 _ rfl; have r1 := cells_at hR3 1 _ rfl; have r2 := cells_at hR3 2 _ rfl; have r3 := cells_at hR3 3 _ rfl; have p0 := frozen_of_row W3 (w.heap.size + 2) 0 _ _ hR3; have p1 := frozen_of_row W3 (w.heap.size + 2) 1 _ _ hR3; have p2 := frozen_of_row W3 (w.heap.size + 2) 2 _ _ hR3; have p3 := frozen_of_row W3 (w.heap.size + 2) 3 _ _ hR3; have HV2 := Hi hv2; have HB3 := Hi (HB0.out.trans (h4.mono HB0.out.size)); clear hR3 hv2 h4)
 refine bodyPost_ret (v := .agg #[.int .u8 ku, .int .i64 nu, .string su, .slice a3 uu.length cap3]) (by simp [results, Tryz.f30, go_sem, r0, r1, r2, r3]) rfl ?_
 refine ⟨_, _, _, _, rfl, ?_, ((((HB3.out.setCell (p := ⟨w.heap.size + 2, 0, none⟩) (by simp) (.int .u8 ku)).setCell (p := ⟨w.heap.size + 2, 1, none⟩) (by simp) (.int .i64 nu)).setCell (p := ⟨w.heap.size + 2, 2, none⟩) (by simp) (.string su)).setCell (p := ⟨w.heap.size + 2, 3, none⟩) (by simp) (.slice a3 uu.length cap3))⟩
 exact HV2.out.keep fun b hf => ⟨⟨by have := HB0.out.size; omega, by simp [World.setCell]; exact hf.2⟩, (Below.heap_setCell _ _ _ b (by simp; have := hf.1; omega)).trans ((Below.heap_setCell _ _ _ b (by simp; have := hf.1; omega)).trans ((Below.heap_setCell _ _ _ b (by simp; have := hf.1; omega)).trans (Below.heap_setCell _ _ _ b (by simp; have := hf.1; omega))))⟩

def prs (b : Bd) : Bd := if validBd b then b else []
theorem prs_srt (b : Bd) : Srt (prs b) := by
 unfold prs
 split
 · rename_i h; exact (valid_spec h).1
 · exact List.Pairwise.nil
theorem prs_mem {b : Bd} {x : ByteArray × Tm} (h : x ∈ prs b) : x ∈ b := by
 unfold prs at h
 split at h
 · exact h
 · cases h
theorem prs_len (b : Bd) : (prs b).length ≤ b.length := by
 unfold prs
 split
 · exact Nat.le_refl _
 · exact Nat.zero_le _
theorem validPairs_any (b : Bd) (v : Value) (w : World) (hv : BdV w v b) (hd : ∀ x ∈ b, x.2.depth < 4611686018427387900) (hs : ∀ x ∈ b, x.1.size ≤ maxLen) :
   Calls Tryz.prog 29 #[v] w fun e w' => ∃ a, e = .returned (.tuple #[.slice a (prs b).length (prs b).length, .bool (validBd b)]) ∧ BdV w (.slice a (prs b).length (prs b).length) (prs b) ∧ Below w.heap.size w w' := by
 have HV := Hi (validBd_any b v w hv hd hs)
 have hv0 := hv
 obtain ⟨a, cap, rfl, hl, hm, hr⟩ := hv
 have HC := Hi (clip_any a b.length cap hl hm)
 have HBD := Hi (show BdV w (.slice a b.length b.length) b from ⟨a, b.length, rfl, Nat.le_refl _, Nat.le_trans hl hm, hr⟩)
 clear hr hv0
 go_enter Tryz.func29, Tryz.ntmps29
 cases hvb : validBd b with
 | true =>
   rw [hvb] at HV
   have hpr : prs b = b := by unfold prs; rw [if_pos hvb]
   have HPR := Hi hpr
   have HVB := Hi hvb
   clear hpr hvb
   go_wp2_with (first | (go_at_call 8; refine HV.out.mono ?_; rintro e w2 ⟨rfl, hb⟩) | (go_at_call 55; refine (HC.out _).mono ?_; rintro e w3 ⟨rfl, rfl⟩))
   go_ret2
   rw [HPR.out]
   exact ⟨a, rfl, HBD.out, hb⟩
 | false =>
   rw [hvb] at HV
   have hpr : prs b = [] := by unfold prs; rw [hvb]; rfl
   have HPR := Hi hpr
   have HVB := Hi hvb
   clear hpr hvb
   go_wp2_with (first | (go_at_call 8; refine HV.out.mono ?_; rintro e w2 ⟨rfl, hb⟩))
   go_ret2
   rw [HPR.out]
   exact ⟨none, rfl, BdV.nil w, hb⟩

theorem mApply_any (b : Bd) (hlen : b.length ≤ 1000000) (hcb : ∀ x ∈ b, x.2.count ≤ 1000000) (hsb : ∀ x ∈ b, x.1.size ≤ maxLen) (v : Value) (t : Tm) (c0 c1 c2 c3 : Value) (w : World) (hv : BdV w v b) (h : IsTm w.heap.size w c0 c1 c2 c3 t) (hc : t.count ≤ 1000000) :
   Calls Tryz.prog 9 #[.agg #[c0, c1, c2, c3], v] w (DetPost (applyT (prs b) t) w) := by
 have h0 := h
 obtain ⟨k, n, s, us⟩ := t
 simp only [IsTm] at h
 obtain ⟨rfl, _, rfl, _, rfl, _, a, cap, rfl, _, _⟩ := h
 obtain ⟨W0, hW0⟩ : ∃ W0, (w.alloc (.cells #[.int .u8 k, .int .i64 n, .string s, .slice a us.length cap] 24)).alloc (.cells #[.int .u8 0, .int .i64 0, .string ⟨#[]⟩, .slice none 0 0] 24) = W0 := ⟨_, rfl⟩
 have hb0 : Below w.heap.size w W0 := by rw [← hW0]; exact ((Below.refl _ w).alloc (Nat.le_refl _) _).alloc (by simp) _
 have hsz : W0.heap.size = w.heap.size + 2 := by rw [← hW0]; simp
 have hN : W0.heap[w.heap.size]? = some (.cells #[.int .u8 k, .int .i64 n, .string s, .slice a us.length cap] 24 (0, 0)) := by
   rw [← hW0]; exact (Below.heap_alloc _ _ _ (by simp)).trans (World.alloc_heap_new _ _)
 have hR : W0.heap[w.heap.size + 1]? = some (.cells #[.int .u8 0, .int .i64 0, .string ⟨#[]⟩, .slice none 0 0] 24 (0, 0)) := by
   rw [← hW0]; have := World.alloc_heap_new (w.alloc (.cells #[.int .u8 k, .int .i64 n, .string s, .slice a us.length cap] 24)) (.cells #[.int .u8 0, .int .i64 0, .string ⟨#[]⟩, .slice none 0 0] 24); rwa [World.size_alloc] at this
 have HN := Hi hN
 have HR := Hi hR
 have HV := Hi (validPairs_any b v W0 (hv.grow hb0) (fun x hx => by have := hcb x hx; have := Tm.depth_le_count x.2; omega) hsb)
 have HB0 := Hi hb0
 have HA := Hi (fun (va : Option Addr) (W : World) (hbv : BdV W (.slice va (prs b).length (prs b).length) (prs b)) (hw : Below w.heap.size w W) => mapply_any (prs b) (prs_srt b) (Nat.le_trans (prs_len b) hlen) (fun x hx => hcb x (prs_mem hx)) (.slice va (prs b).length (prs b).length) (.mk k n s us) (.int .u8 k) (.int .i64 n) (.string s) (.slice a us.length cap) W hbv ((h0.below hw).mono hw.size) hc)
 obtain ⟨tq, htq⟩ : ∃ tq, applyT (prs b) (.mk k n s us) = tq := ⟨_, rfl⟩
 rw [htq] at HA ⊢
 obtain ⟨ku, nu, su, uu⟩ := tq
 obtain ⟨va0, vn0, vc0, rfl⟩ : ∃ va vn vc, v = .slice va vn vc := by obtain ⟨a, c, e, _⟩ := hv; exact ⟨_, _, _, e⟩
 clear hN hR hb0 h0 hv htq
 go_enter Tryz.func9, Tryz.ntmps9
 go_wp2_with (first | (go_at_call 30; refine (HA.out va W1 HBV.out HB1.out).mono ?_; rintro e W3 ⟨z0, z1, z2, z3, rfl, hv2, h4⟩; have hv3 := hv2; simp only [IsTmIn] at hv3; obtain ⟨rfl, _, rfl, _, rfl, _, a3, cap3, rfl, _, _⟩ := hv3; have hR3 := (h4.block (w.heap.size + 1) (by have := H01.out; omega)).trans HR1.out; have r0 := cells_at hR3 0 _ rfl; have r1 := cells_at hR3 1 _ rfl; have r2 := cells_at hR3 2 _ rfl; have r3 := cells_at hR3 3 _ rfl; have p0 := frozen_of_row W3 (w.heap.size + 1) 0 _ _ hR3; have p1 := frozen_of_row W3 (w.heap.size + 1) 1 _ _ hR3; have p2 := frozen_of_row W3 (w.heap.size + 1) 2 _ _ hR3; have p3 := frozen_of_row W3 (w.heap.size + 1) 3 _ _ hR3; have HV2 := Hi hv2; have HB3 := Hi (HB1.out.trans (h4.mono HB1.out.size)); clear hR3 hv2 h4) | (go_at_call 29; refine HV.out.mono ?_; rintro e W1 ⟨va, rfl, hbv, hb⟩; have hN1 := (hb.block w.heap.size (by omega)).trans HN.out; have x0 := cells_at hN1 0 _ rfl; have x1 := cells_at hN1 1 _ rfl; have x2 := cells_at hN1 2 _ rfl; have x3 := cells_at hN1 3 _ rfl; have HR1 := Hi ((hb.block (w.heap.size + 1) (by omega)).trans HR.out); have HB1 := Hi (HB0.out.trans (hb.mono HB0.out.size)); have HBV := Hi (hbv.grow hb); have H01 := Hi (show w.heap.size + 2 ≤ W1.heap.size by have := hb.size; omega); clear hbv hb hN1))
 refine bodyPost_ret (v := .agg #[.int .u8 ku, .int .i64 nu, .string su, .slice a3 uu.length cap3]) (by simp [results, Tryz.f9, go_sem, r0, r1, r2, r3]) rfl ?_
 refine ⟨_, _, _, _, rfl, ?_, ((((HB3.out.setCell (p := ⟨w.heap.size + 1, 0, none⟩) (by simp) (.int .u8 ku)).setCell (p := ⟨w.heap.size + 1, 1, none⟩) (by simp) (.int .i64 nu)).setCell (p := ⟨w.heap.size + 1, 2, none⟩) (by simp) (.string su)).setCell (p := ⟨w.heap.size + 1, 3, none⟩) (by simp) (.slice a3 uu.length cap3))⟩
 exact HV2.out.keep fun b hf => ⟨⟨by have := HB1.out.size; omega, by simp [World.setCell]; exact hf.2⟩, (Below.heap_setCell _ _ _ b (by simp; have := hf.1; have := H01.out; omega)).trans ((Below.heap_setCell _ _ _ b (by simp; have := hf.1; have := H01.out; omega)).trans ((Below.heap_setCell _ _ _ b (by simp; have := hf.1; have := H01.out; omega)).trans (Below.heap_setCell _ _ _ b (by simp; have := hf.1; have := H01.out; omega))))⟩
end Go.Proofs.YtlmdhlckgbgfhaaGreatDoor
namespace Go.Proofs.YtlmdhlckgbgfhaaGreatDoor
open Go.RowKit

theorem rank_q (k : Int) (w : World) (hk : 0 ≤ k ∧ k ≤ 255) : Calls Tryz.prog 102 #[.int .u8 k] w fun e w' => e = .returned (.int .i64 (rankI k)) ∧ w' = w := (rank_any k w hk).mono fun _ _ ⟨h, h'⟩ => ⟨h, h'.symm⟩
theorem compareString_q (s t : ByteArray) (w : World) : Calls Tryz.prog 104 #[.string s, .string t] w fun e w' => e = .returned (.int .i64 (strCmp s t)) ∧ w' = w := (compareString_any s t w).mono fun _ _ ⟨h, h'⟩ => ⟨h, h'.symm⟩

theorem compare_any (B : Nat) (t : Tm) : CmpAt B t := by
 induction t using Tm.ind with
 | h k n s us ih =>
   rintro ⟨k', n', s', us'⟩ c0 c1 c2 c3 d0 d1 d2 d3 W h1 h2 hB
   simp only [IsTm] at h1 h2
   obtain ⟨rfl, hk, rfl, hn, rfl, hs, a, cap, rfl, hl, hargs⟩ := h1
   obtain ⟨rfl, hk', rfl, hn', rfl, hs', a', cap', rfl, hl', hargs'⟩ := h2
   have HA := Hi hargs; clear hargs
   have HA' := Hi hargs'; clear hargs'
   have IH := Hi ih; clear ih
   go_enter Tryz.func70, Tryz.ntmps70
   go_wp2_with fail
   go_quiet (first | (go_at_call 102; exact Calls.quiet_of_same (rank_q _ _ (by assumption))) | (go_at_call 101; exact Calls.quiet_of_same (Tryz.cmp_Compare_int _ _ _)))
   generalize hW1 : World.drewN _ _ = W1
   have hz1 : W1.heap.size = W.heap.size + 2 := by rw [← hW1]; show ((W.alloc _).alloc _).heap.size = _; simp
   have hB1 : Below W.heap.size W W1 := by
     rw [← hW1]
     have := (((Below.refl _ W).alloc (Nat.le_refl _) (.cells #[.int .u8 k, .int .i64 n, .string s, .slice a us.length cap] 24)).alloc (by simp) (.cells #[.int .u8 k', .int .i64 n', .string s', .slice a' us'.length cap'] 24))
     exact ⟨this.os, this.tape, this.output, this.size, this.block⟩
   have hx : W1.heap[W.heap.size]? = some (.cells #[.int .u8 k, .int .i64 n, .string s, .slice a us.length cap] 24 (0, 0)) := by
     rw [← hW1]; exact (Below.heap_alloc _ _ _ (by simp)).trans (World.alloc_heap_new W _)
   have hy : W1.heap[W.heap.size + 1]? = some (.cells #[.int .u8 k', .int .i64 n', .string s', .slice a' us'.length cap'] 24 (0, 0)) := by
     rw [← hW1]
     have := World.alloc_heap_new (W.alloc (.cells #[.int .u8 k, .int .i64 n, .string s, .slice a us.length cap] 24)) (.cells #[.int .u8 k', .int .i64 n', .string s', .slice a' us'.length cap'] 24)
     rw [World.size_alloc] at this; exact this
   have x0 := cells_at hx 0 _ rfl
   have x1 := cells_at hx 1 _ rfl
   have x2 := cells_at hx 2 _ rfl
   have x3 := cells_at hx 3 _ rfl
   have y0 := cells_at hy 0 _ rfl
   have y1 := cells_at hy 1 _ rfl
   have y2 := cells_at hy 2 _ rfl
   have y3 := cells_at hy 3 _ rfl
   have HX := Hi hx
   have HY := Hi hy
   clear hW1 hx hy
   have HZ1 := Hi hz1; clear hz1
   have hc : Tm.cmp (.mk k n s us) (.mk k' n' s' us') = (if Lib.compareInt (rankI k) (rankI k') ≠ 0 then Lib.compareInt (rankI k) (rankI k')
     else if k = 1 ∧ n ≠ n' then Lib.compareInt n n'
     else if orI (Lib.compareInt us.length us'.length) (strCmp s s') ≠ 0 then orI (Lib.compareInt us.length us'.length) (strCmp s s')
     else if Tm.cmpL us us' ≠ 0 then Tm.cmpL us us'
     else Lib.compareInt n n') := by simp only [Tm.cmp]
   have HC := Hi hc; clear hc
   by_cases hc1 : Lib.compareInt (rankI k) (rankI k') = 0
   · have HC1 := Hi hc1
     have e1 : (Lib.compareInt (rankI k) (rankI k') != 0) = false := by simpa using hc1
     clear hc1
     by_cases hk1 : k = 1 ∧ n ≠ n'
     · obtain ⟨rfl, hnn⟩ := hk1
       have HNN := Hi hnn
       have e2 : (n != n') = true := by simpa using hnn
       clear hnn
       go_wp2_with (go_at_call 101; refine (Tryz.cmp_Compare_int _ _ _).mono ?_; rintro e W2 ⟨rfl, rfl⟩)
       go_ret
       exact ⟨by rw [HC.out, if_neg (by simpa using HC1.out), if_pos (by simpa using HNN.out)]; rfl, hB1⟩
     · have HK1 := Hi hk1
       have e3 : (k == 1) = false ∨ ((k == 1) = true ∧ (n != n') = false) := by
         by_cases e : k = 1
         · right; refine ⟨by simpa using e, ?_⟩
           have : n = n' := by
             by_cases h : n = n'
             · exact h
             · exact absurd ⟨e, h⟩ hk1
           simpa using this
         · left; simpa using e
       clear hk1
       rcases e3 with e3 | ⟨e3, e4⟩
       all_goals
         go_wp2_with fail
         go_still_tail 12, (by kernel_rfl)
         still_call (Tryz.cmp_Compare_int _ _ _)
         repeat still_step
         still_call (compareString_q _ _ _)
         refine wpStill_nil ?_
         change wpList _ _ _ _ _ W1.drew
         have hO := or_two W1.heap.size (Lib.compareInt us.length us'.length) (strCmp s s') 2 (W1.alloc (.cells #[.int .i64 (Lib.compareInt us.length us'.length), .int .i64 (strCmp s s')] 3)).drew
           (cells_at (World.alloc_heap_new W1 (.cells #[.int .i64 (Lib.compareInt us.length us'.length), .int .i64 (strCmp s s')] 3)) 0 _ rfl) (cells_at (World.alloc_heap_new W1 (.cells #[.int .i64 (Lib.compareInt us.length us'.length), .int .i64 (strCmp s s')] 3)) 1 _ rfl)
         have HO := Hi hO; clear hO
         go_wp2_with (go_at_call 103; refine HO.out.mono ?_)
         clear HO
         rintro e W3' ⟨rfl, hW3⟩
         have hB3 : Below W.heap.size W W3' := by rw [← hW3]; exact (hB1.alloc (by rw [HZ1.out]; omega) _).drew
         have hz3 : W3'.heap.size = W.heap.size + 3 := by rw [← hW3]; show (W1.alloc _).heap.size = _; rw [World.size_alloc, HZ1.out]
         have hx : W3'.heap[W.heap.size]? = some (.cells #[.int .u8 k, .int .i64 n, .string s, .slice a us.length cap] 24 (0, 0)) := by
           rw [← hW3]; exact (Below.heap_alloc _ _ _ (by rw [HZ1.out]; omega)).trans HX.out
         have hy : W3'.heap[W.heap.size + 1]? = some (.cells #[.int .u8 k', .int .i64 n', .string s', .slice a' us'.length cap'] 24 (0, 0)) := by
           rw [← hW3]; exact (Below.heap_alloc _ _ _ (by rw [HZ1.out]; omega)).trans HY.out
         clear hW3 HX HY x0 x1 x2 x3 y0 y1 y2 y3
         have x3 := cells_at hx 3 _ rfl
         have y3 := cells_at hy 3 _ rfl
         have HX := Hi hx
         have HY := Hi hy
         have HZ3 := Hi hz3
         clear hx hy hz3
         by_cases hor : orI (Lib.compareInt us.length us'.length) (strCmp s s') = 0
         · have HOR := Hi hor
           have e5 : (orI (Lib.compareInt us.length us'.length) (strCmp s s') != 0) = false := by simpa using hor
           clear hor
           have hF := compareFunc_any B us us' IH.out a a' cap cap' W3' (by rw [HZ3.out]; omega) hl hl'
             (fun h => by obtain ⟨b, off, h1, h2, h3⟩ := HA.out h; exact ⟨b, off, h1, h2, h3.below (hB3.mono hB) h2⟩)
             (fun h => by obtain ⟨b, off, h1, h2, h3⟩ := HA'.out h; exact ⟨b, off, h1, h2, h3.below (hB3.mono hB) h2⟩)
           have HF := Hi hF; clear hF
           go_wp2_with (go_at_call 105; refine HF.out.mono ?_)
           clear HF
           rintro e W4 ⟨rfl, hB4⟩
           have hx := (hB4.block _ (by rw [HZ3.out]; omega)).trans HX.out
           have hy := (hB4.block _ (by rw [HZ3.out]; omega)).trans HY.out
           have x1 := cells_at hx 1 _ rfl
           have y1 := cells_at hy 1 _ rfl
           have hBf : Below W.heap.size W W4 := hB3.trans (hB4.mono (by rw [HZ3.out]; omega))
           clear hx hy hB4
           by_cases hcf : Tm.cmpL us us' = 0
           · have HCF := Hi hcf
             have e6 : (Tm.cmpL us us' != 0) = false := by simpa using hcf
             clear hcf
             go_wp2_with (go_at_call 101; refine (Tryz.cmp_Compare_int _ _ _).mono ?_; rintro e W5 ⟨rfl, rfl⟩)
             go_ret
             exact ⟨by rw [HC.out, if_neg (by simpa using HC1.out), if_neg HK1.out, if_neg (by simpa using HOR.out), if_neg (by simpa using HCF.out)]; rfl, hBf⟩
           · have HCF := Hi hcf
             have e6 : (Tm.cmpL us us' != 0) = true := by simpa using hcf
             clear hcf
             go_wp2
             go_ret
             exact ⟨by rw [HC.out, if_neg (by simpa using HC1.out), if_neg HK1.out, if_neg (by simpa using HOR.out), if_pos HCF.out]; rfl, hBf⟩
         · have HOR := Hi hor
           have e5 : (orI (Lib.compareInt us.length us'.length) (strCmp s s') != 0) = true := by simpa using hor
           clear hor
           go_wp2
           go_ret
           exact ⟨by rw [HC.out, if_neg (by simpa using HC1.out), if_neg HK1.out, if_pos HOR.out]; rfl, hB3⟩
   · have HC1 := Hi hc1
     have e1 : (Lib.compareInt (rankI k) (rankI k') != 0) = true := by simpa using hc1
     clear hc1
     go_wp2
     go_ret
     exact ⟨by rw [HC.out, if_pos HC1.out]; rfl, hB1⟩
end Go.Proofs.YtlmdhlckgbgfhaaGreatDoor
namespace Go.Proofs.YtlmdhlckgbgfhaaGreatDoor
open Go.RowKit

theorem equal_any (t t' : Tm) (c0 c1 c2 c3 d0 d1 d2 d3 : Value) (w : World) (ht : IsTm w.heap.size w c0 c1 c2 c3 t) (ht' : IsTm w.heap.size w d0 d1 d2 d3 t') :
   Calls Tryz.prog 38 #[.agg #[c0, c1, c2, c3], .agg #[d0, d1, d2, d3]] w fun e w' => e = .returned (.bool (Tm.cmp t t' == 0)) ∧ Below w.heap.size w w' := by
 have hBe : Below w.heap.size w ((w.alloc (.cells #[c0, c1, c2, c3] 24)).alloc (.cells #[d0, d1, d2, d3] 24)) := ((Below.refl _ w).alloc (Nat.le_refl _) _).alloc (by simp) _
 have HC := Hi (compare_any w.heap.size t t' c0 c1 c2 c3 d0 d1 d2 d3 _ (ht.below hBe) (ht'.below hBe) hBe.size)
 have HB := Hi hBe
 obtain ⟨r, hr⟩ : ∃ r, Tm.cmp t t' = r := ⟨_, rfl⟩
 rw [hr] at HC ⊢
 clear ht ht' hr hBe
 by_cases h0 : r = 0
 all_goals
   first | subst h0 | (have h1 : (r == 0) = false := by simpa using h0)
   go_enter Tryz.func38, Tryz.ntmps38
   go_wp2_with fail
   refine HC.out.mono ?_
   rintro e w' ⟨rfl, hb⟩
   have hb' := HB.out.trans (hb.mono HB.out.size)
   go_wp2_with fail
   go_ret
   first | exact ⟨rfl, hb'⟩ | exact ⟨by rw [h1]; simp, hb'⟩
end Go.Proofs.YtlmdhlckgbgfhaaGreatDoor
