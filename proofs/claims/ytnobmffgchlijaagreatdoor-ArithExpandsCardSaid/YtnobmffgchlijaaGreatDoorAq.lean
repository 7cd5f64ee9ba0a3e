/- Package arith: detach. -/
import Derived.Test.YtnobmffgchlijaaGreatDoorAp
import Derived.Maps.AppendAt
namespace Go.Proofs.YtnobmffgchlijaaGreatDoor
open Go.RowKit Go.Shelf
attribute [local go_sem] Oper.semAt_some

mutual
/-- Few arguments everywhere. -/
def Tm.WfL8 : Tm → Prop
  | .mk _ _ _ args => args.length ≤ 8 ∧ Tm.WfL8L args
def Tm.WfL8L : List Tm → Prop
  | [] => True
  | t :: ts => t.WfL8 ∧ Tm.WfL8L ts
end
theorem Tm.WfL8_mem : ∀ {ts : List Tm} {t : Tm}, Tm.WfL8L ts → t ∈ ts → t.WfL8
  | a :: ts, t, h, hm => by
    rcases List.mem_cons.1 hm with rfl | hm
    · exact h.1
    · exact Tm.WfL8_mem h.2 hm
/-- What detach gives: the term, in blocks of its own. -/
def DetPost (t : Tm) (w : World) (e : Ending) (w' : World) : Prop := ∃ d0 d1 d2 d3, e = .returned (.agg #[d0, d1, d2, d3]) ∧ IsTmIn (fun b => w.heap.size ≤ b ∧ b < w'.heap.size) w' d0 d1 d2 d3 t ∧ Below w.heap.size w w'
def DetAt (t : Tm) : Prop := ∀ (c0 c1 c2 c3 : Value) (w : World), IsTm w.heap.size w c0 c1 c2 c3 t → t.WfL8 → Calls Tryz.prog 40 #[.agg #[c0, c1, c2, c3]] w (DetPost t w)

set_option maxRecDepth 100000 in
set_option maxHeartbeats 40000000 in
theorem detach_any (t : Tm) : DetAt t := by
  induction t using Tm.ind with
  | h k n s us ih =>
    intro c0 c1 c2 c3 w h hw
    simp only [IsTm] at h
    obtain ⟨rfl, hk, rfl, hn, rfl, hss, a, cap, rfl, hl, ha⟩ := h
    simp only [Tm.WfL8] at hw
    have HA := Lib.hid ha
    have HIH := Lib.hid ih
    have HW := Lib.hid hw.2
    have hw1 := hw.1
    obtain ⟨W0, hW0⟩ : ∃ W0, (w.alloc (.cells #[.int .u8 k, .int .i64 n, .string s, .slice a us.length cap] 32)).alloc (.cells #[.int .u8 0, .int .i64 0, .string ⟨#[]⟩, .slice none 0 0] 32) = W0 := ⟨_, rfl⟩
    have hb0 : Below w.heap.size w W0 := by rw [← hW0]; exact ((Below.refl _ w).alloc (Nat.le_refl _) _).alloc (by simp) _
    have hsz : W0.heap.size = w.heap.size + 2 := by rw [← hW0]; simp
    have hN : W0.heap[w.heap.size]? = some (.cells #[.int .u8 k, .int .i64 n, .string s, .slice a us.length cap] 32 (0, 0)) := by
      rw [← hW0]; exact (Below.heap_alloc _ _ _ (by simp)).trans (World.alloc_heap_new _ _)
    have hR : W0.heap[w.heap.size + 1]? = some (.cells #[.int .u8 0, .int .i64 0, .string ⟨#[]⟩, .slice none 0 0] 32 (0, 0)) := by
      rw [← hW0]; have := World.alloc_heap_new (w.alloc (.cells #[.int .u8 k, .int .i64 n, .string s, .slice a us.length cap] 32)) (.cells #[.int .u8 0, .int .i64 0, .string ⟨#[]⟩, .slice none 0 0] 32); rwa [World.size_alloc] at this
    clear ha ih hw
    have x3 := cells_at hN 3 _ rfl
    obtain ⟨i0, hi, hz0, hz1, hz2⟩ := info_parts info_term
    go_enter Tryz.func40, Tryz.ntmps40
    go_wp2_with fail
    go_loopw [3, 9] (fun v i wr => ∃ j : Nat, j ≤ us.length ∧ i = .int .i64 j ∧ Vals none W0.heap.size wr v (us.take j) ∧ Below W0.heap.size W0 wr) (fun _ i _ => us.length - (intOf i).toNat)
    case atStart => exact ⟨0, Nat.zero_le _, rfl, Vals.nil _ _ _, Below.refl _ _⟩
    case round =>
      obtain ⟨j, hj, rfl, hV, hBl⟩ := hrel
      have hBw := hb0.trans (hBl.mono hb0.size)
      by_cases hlt : j < us.length
      · obtain ⟨bk, off, rfl, hbk', hI⟩ := HA.out (by intro e; rw [e] at hlt; simp at hlt)
        obtain ⟨c0, c1, c2, c3, e0, e1, e2, e3, hc⟩ := hI.at j hlt
        have g0 := (hBw.cell (p := ⟨bk, off + j * 4, none⟩) (by show bk < _; omega)).trans e0
        have g1 := (hBw.cell (p := ⟨bk, off + j * 4 + 1, none⟩) (by show bk < _; omega)).trans e1
        have g2 := (hBw.cell (p := ⟨bk, off + j * 4 + 2, none⟩) (by show bk < _; omega)).trans e2
        have g3 := (hBw.cell (p := ⟨bk, off + j * 4 + 3, none⟩) (by show bk < _; omega)).trans e3
        have hih := HIH.out us[j] (List.getElem_mem hlt)
        have hwf := Tm.WfL8_mem HW.out (List.getElem_mem hlt)
        have htk := List.take_succ_eq_append_getElem hlt
        obtain ⟨u, hq⟩ : ∃ u, us[j] = u := ⟨_, rfl⟩
        rw [hq] at hc hih hwf htk
        obtain ⟨k', n', s', as'⟩ := u
        have hc0 := hc
        simp only [IsTm] at hc
        obtain ⟨rfl, _, rfl, hn', rfl, _, a', cap', rfl, _, _⟩ := hc
        have hA : Below wr.heap.size wr (wr.alloc (.cells #[.int .u8 k', .int .i64 n', .string s', .slice a' as'.length cap'] 32)) := (Below.refl _ wr).alloc (Nat.le_refl _) _
        have hBA := hBw.trans (hA.mono hBw.size)
        have HP := Lib.hid (hih _ _ _ _ _ ((hc0.below hBA).mono hBA.size) hwf)
        obtain ⟨xs, hO, hH, _⟩ := hV
        have htl : (us.take j).length = j := by simp; omega
        obtain ⟨TS, hTS⟩ : ∃ TS, us.take j = TS := ⟨_, rfl⟩
        rw [hTS] at htl hO hH htk
        clear hTS
        have HO := Lib.hid hO
        have HH := Lib.hid hH
        have HT := Lib.hid htk
        have HHA := Lib.hid hA
        have HBL := Lib.hid hBl
        clear e0 e1 e2 e3 hih hwf htk hc0 hI hA hBA hO hH hBl hBw
        have i1 : (0 : Int) ≤ (j : Int) := by omega
        have i2 : (j : Int) < (us.length : Int) := by omega
        go_wp2_with (first | (go_at_call 40; refine HP.out.mono ?_; clear HP; rintro e W2 ⟨y0, y1, y2, y3, rfl, hv2, h4⟩; have hv3 := hv2; simp only [IsTmIn] at hv3; obtain ⟨rfl, _, rfl, _, rfl, _, a2, cap2, rfl, _, _⟩ := hv3) | (at_builtin; refine wpList_append_own_at _ rfl _ _ 30 rfl W0.heap.size 32 i0 _ 4 56 Tryz.underlying30 hi hz0 hz1 hz2 rfl (by decide) u3 TS.length xs rfl ?c0 _ 1 1 [.int .u8 k', .int .i64 n', .string s', .slice a2 as'.length cap2] rfl rfl ?c1 ?c2 ?c3 ?c4 ?c5 ?_))
        case c2 => simp [Value.oneCell']
        case c3 => unfold maxLen; omega
        case c4 => omega
        case c5 => have := HBL.out.size; have := HHA.out.size; have := h4.size; simp; omega
        case c1 =>
          intro jj u' hu'
          have hn := World.alloc_heap_new W2 (.cells #[.int .u8 k', .int .i64 n', .string s', .slice a2 as'.length cap2] 32)
          rcases jj with _ | _ | _ | _ | jj
          · cases hu'; exact cells_at hn 0 _ rfl
          · cases hu'; exact cells_at hn 1 _ rfl
          · cases hu'; exact cells_at hn 2 _ rfl
          · cases hu'; exact cells_at hn 3 _ rfl
          · simp at hu'
        case c0 => exact own_grown (own_grown HO.out HHA.out) (h4.alloc h4.size _)
        intro v' w' hown' hgrow _ hat
        have hBel := HHA.out.trans ((h4.alloc h4.size (.cells #[.int .u8 k', .int .i64 n', .string s', .slice a2 as'.length cap2] 32)).mono HHA.out.size)
        have z1 := HHA.out.size
        have z2 := h4.size
        have zA := hBel.size
        have zL := HBL.out.size
        have hV' : Vals none W0.heap.size w' v' (TS ++ [.mk k' n' s' as']) := Vals.app (ts := TS) (us := [.mk k' n' s' as']) (HH.out.keep fun b hf => ⟨⟨hf.1, Nat.lt_of_lt_of_le hf.2.1 zA, hf.2.2⟩, hBel.block b hf.2.1⟩) (fun g e => by cases e)
          (HoldL.one (hv2.keep fun b hf => ⟨⟨by omega, by simp; omega, fun e => by have := (HO.out.lt b e).2; omega, by simp⟩, Below.heap_alloc _ _ _ hf.2⟩)) (by rw [htl, hsz]; exact hown') hgrow (by rw [World.size_alloc]; exact hat)
        have hBw : Below W0.heap.size W0 w' := (HBL.out.trans (hBel.mono zL)).grown hgrow (by omega) (fun k e => (HO.out.lt k e).1)
        have HF := Lib.hid (show ∃ j' : Nat, j' ≤ us.length ∧ (Value.int .i64 ((j + 1 : Nat) : Int)) = .int .i64 j' ∧ Vals none W0.heap.size w' v' (us.take j') ∧ Below W0.heap.size W0 w' from ⟨j + 1, by omega, rfl, by rw [HT.out]; exact hV', hBw⟩)
        clear hown' hgrow hat hBel hV' hBw HH HO HT
        go_wp2
        go_roundw
        case rel => exact HF.out
        case measure => simp [intOf]; omega
      · have hje : j = us.length := by omega
        subst hje
        rw [List.take_of_length_le (Nat.le_refl _)] at hV
        have hN' := (hBl.block w.heap.size (by omega)).trans hN
        have hR' := (hBl.block (w.heap.size + 1) (by omega)).trans hR
        obtain ⟨va, vn, vc, hva⟩ := hV.slice
        subst hva
        have HV := Lib.hid hV
        have HBW := Lib.hid hBw
        have y0 := cells_at hN' 0 _ rfl
        have y1 := cells_at hN' 1 _ rfl
        have y2 := cells_at hN' 2 _ rfl
        have y3 := cells_at hN' 3 _ rfl
        have q0 := cells_at hR' 0 _ rfl
        have q1 := cells_at hR' 1 _ rfl
        have q2 := cells_at hR' 2 _ rfl
        have q3 := cells_at hR' 3 _ rfl
        have f3 := frozen_of_row wr w.heap.size 3 _ _ hN'
        have p0 := frozen_of_row wr (w.heap.size + 1) 0 _ _ hR'
        have p1 := frozen_of_row wr (w.heap.size + 1) 1 _ _ hR'
        have p2 := frozen_of_row wr (w.heap.size + 1) 2 _ _ hR'
        have p3 := frozen_of_row wr (w.heap.size + 1) 3 _ _ hR'
        clear hV hBw hBl hN' hR'
        have hrow := HV.out.rowIn (Nat.le_refl _)
        have hkp : ∀ b, (W0.heap.size ≤ b ∧ b < wr.heap.size) → (((((wr.setCell ⟨w.heap.size, 3, none⟩ (.slice va vn vc)).setCell ⟨w.heap.size + 1, 0, none⟩ (.int .u8 k)).setCell ⟨w.heap.size + 1, 1, none⟩ (.int .i64 n)).setCell ⟨w.heap.size + 1, 2, none⟩ (.string s)).setCell ⟨w.heap.size + 1, 3, none⟩ (.slice va vn vc)).heap[b]? = wr.heap[b]? := fun b hb =>
          (Below.heap_setCell _ _ _ b (by simp; omega)).trans ((Below.heap_setCell _ _ _ b (by simp; omega)).trans ((Below.heap_setCell _ _ _ b (by simp; omega)).trans ((Below.heap_setCell _ _ _ b (by simp; omega)).trans (Below.heap_setCell _ _ _ b (by simp; omega)))))
        have hrow' := hrow.keep (ok' := fun b => w.heap.size ≤ b ∧ b < (((((wr.setCell ⟨w.heap.size, 3, none⟩ (.slice va vn vc)).setCell ⟨w.heap.size + 1, 0, none⟩ (.int .u8 k)).setCell ⟨w.heap.size + 1, 1, none⟩ (.int .i64 n)).setCell ⟨w.heap.size + 1, 2, none⟩ (.string s)).setCell ⟨w.heap.size + 1, 3, none⟩ (.slice va vn vc)).heap.size) (fun b hb => ⟨⟨by omega, by simp [World.setCell]; omega⟩, hkp b hb⟩)
        have HRW := Lib.hid hrow'
        have HBF := Lib.hid (((((HBW.out.setCell (p := ⟨w.heap.size, 3, none⟩) (Nat.le_refl _) (.slice va vn vc)).setCell (p := ⟨w.heap.size + 1, 0, none⟩) (by simp) (.int .u8 k)).setCell (p := ⟨w.heap.size + 1, 1, none⟩) (by simp) (.int .i64 n)).setCell (p := ⟨w.heap.size + 1, 2, none⟩) (by simp) (.string s)).setCell (p := ⟨w.heap.size + 1, 3, none⟩) (by simp) (.slice va vn vc))
        clear hrow hrow' hkp
        go_wp2
        refine bodyPost_ret (v := .agg #[.int .u8 k, .int .i64 n, .string s, .slice va vn vc]) (by simp [results, Tryz.f40, go_sem, q0, q1, q2, q3]) rfl ?_
        refine ⟨_, _, _, _, rfl, ?_, HBF.out⟩
        simp only [IsTmIn]
        obtain ⟨a', cap', e1, e2, e3⟩ := HRW.out
        exact ⟨trivial, hk, trivial, hn, trivial, hss, a', cap', e1, e2, e3⟩
end Go.Proofs.YtnobmffgchlijaaGreatDoor
