/- The reference's order of atoms. -/
import Derived.Test.YtcoieohbmkjpoaaGreatDoorB1g
import Derived.Test.YtcoieohbmkjpoaaGreatDoorB1Rw
namespace Go.Proofs.YtcoieohbmkjpoaaGreatDoor
open Go.RowKit Go.Shelf Go.Maps
attribute [local go_sem] Oper.semAt_some

/-- What the reference's Compare gives. -/
def RcR (x y : Ato) (w : World) (e : Ending) (w' : World) : Prop := e = .returned (.int .i64 (cmpA x y)) ∧ Below w.heap.size w w'
set_option maxRecDepth 100000 in
set_option maxHeartbeats 4000000 in
theorem rcompareA_any (x y : Ato) (v0 v1 u0 u1 : Value) (w : World) (h : AtS (fun b => b < w.heap.size) w v0 v1 x) (h' : AtS (fun b => b < w.heap.size) w u0 u1 y) (hc : cntA x ≤ 1000000) :
    Calls Tryz.prog 13 #[.agg #[v0, v1], .agg #[u0, u1]] w (RcR x y w) := by
  obtain ⟨p, us⟩ := x
  obtain ⟨q, vs⟩ := y
  obtain ⟨a, cap, rfl, rfl⟩ := h.shape
  obtain ⟨a', cap', rfl, rfl⟩ := h'.shape
  show Calls Tryz.prog 13 #[.agg #[.string p, .slice a us.length cap], .agg #[.string q, .slice a' vs.length cap']] w _
  have hl : us.length ≤ 9223372036854775807 := by obtain ⟨_, _, _, _, _, q, _⟩ := h; unfold maxLen at q; exact q
  have hl' : vs.length ≤ 9223372036854775807 := by obtain ⟨_, _, _, _, _, q, _⟩ := h'; unfold maxLen at q; exact q
  obtain ⟨W, hW⟩ : ∃ W, (w.alloc (.cells #[.string p, .slice a us.length cap] 24)).alloc (.cells #[.string q, .slice a' vs.length cap'] 24) = W := ⟨_, rfl⟩
  have hB : Below w.heap.size w W := by rw [← hW]; exact ((Below.refl _ w).alloc (Nat.le_refl _) _).alloc (by simp) _
  have hx : W.heap[w.heap.size]? = some (.cells #[.string p, .slice a us.length cap] 24 (0, 0)) := by rw [← hW]; exact (Below.heap_alloc _ _ _ (by simp)).trans (World.alloc_heap_new _ _)
  have hy : W.heap[w.heap.size + 1]? = some (.cells #[.string q, .slice a' vs.length cap'] 24 (0, 0)) := by
    rw [← hW]; have := World.alloc_heap_new (w.alloc (.cells #[.string p, .slice a us.length cap] 24)) (.cells #[.string q, .slice a' vs.length cap'] 24); rwa [World.size_alloc] at this
  have HA := Lib.hid ((h.below hB).args (fun _ h => h))
  have HA' := Lib.hid ((h'.below hB).args (fun _ h => h))
  have x0 := cells_at hx 0 _ rfl
  have x1 := cells_at hx 1 _ rfl
  have y0 := cells_at hy 0 _ rfl
  have y1 := cells_at hy 1 _ rfl
  have HB := Lib.hid hB
  have HX := Lib.hid hx
  have HY := Lib.hid hy
  have HC := Lib.hid hc
  have hR : cmpA (p, us) (q, vs) = orI (orI (strCmp p q) (Lib.compareInt us.length vs.length)) (Tm.cmpL us vs) := rfl
  have HR := Lib.hid hR
  clear h h' hB hx hy hc hR
  by_cases e0 : p.toList = q.toList
  case neg =>
    have e1 : (p.toList == q.toList) = false := beq_eq_false_iff_ne.2 e0
    cases e2 : Op.bytesLess p.toList q.toList
    all_goals
      go_enter Tryz.func13, Tryz.ntmps13
      go_wp2
      go_ret
      exact ⟨by rw [HR.out]; simp [orI, strCmp, e1, e2], HB.out⟩
  obtain rfl : p = q := bytes_inj e0
  have hs0 : strCmp p p = 0 := by rw [strCmp_eq]; exact byC_zero.2 rfl
  have HS0 := Lib.hid hs0
  clear hs0 e0
  by_cases hlen : us.length = vs.length
  case neg =>
    have e1 : ((us.length : Int) != (vs.length : Int)) = true := by simp; omega
    by_cases hlt : us.length < vs.length
    · have hci : Lib.compareInt us.length vs.length = -1 := by unfold Lib.compareInt; rw [if_pos (by omega)]
      have HCI := Lib.hid hci
      clear hci
      have i1 : (us.length : Int) < (vs.length : Int) := by omega
      go_enter Tryz.func13, Tryz.ntmps13
      go_wp2
      go_ret
      exact ⟨by rw [HR.out, HS0.out, HCI.out]; simp [orI], HB.out⟩
    · have hci : Lib.compareInt us.length vs.length = 1 := by unfold Lib.compareInt; rw [if_neg (by omega), if_pos (by omega)]
      have HCI := Lib.hid hci
      clear hci
      have i1 : ¬ (us.length : Int) < (vs.length : Int) := by omega
      go_enter Tryz.func13, Tryz.ntmps13
      go_wp2
      go_ret
      exact ⟨by rw [HR.out, HS0.out, HCI.out]; simp [orI], HB.out⟩
  have hci : Lib.compareInt us.length vs.length = 0 := by unfold Lib.compareInt; rw [if_neg (by omega), if_neg (by omega)]
  obtain ⟨R, hRR⟩ : ∃ R, Tm.cmpL us vs = R := ⟨_, rfl⟩
  have HRR := Lib.hid (show cmpA (p, us) (p, vs) = R by rw [HR.out, HS0.out, hci, hRR]; simp [orI])
  have HL := Lib.hid hlen
  clear hci HR HS0
  have e1 : ((us.length : Int) != (vs.length : Int)) = false := by simp; omega
  clear hlen
  go_enter Tryz.func13, Tryz.ntmps13
  go_wp2_with fail
  try rw [hW]
  clear hW
  go_loopw [5] (fun i wr => ∃ (j : Nat), j ≤ us.length ∧ i = .int .i64 j ∧ Tm.cmpL (us.drop j) (vs.drop j) = R ∧ Below W.heap.size W wr) (fun i _ => us.length - (intOf i).toNat)
  case atStart => exact ⟨0, by omega, by go_num, by simpa using hRR, Below.refl _ _⟩
  case round =>
    obtain ⟨j, hj, rfl, hk, hBr⟩ := hrel
    clear hRR
    have hxr := (hBr.block w.heap.size (Array.getElem?_eq_some_iff.1 HX.out).1).trans HX.out
    have hyr := (hBr.block (w.heap.size + 1) (Array.getElem?_eq_some_iff.1 HY.out).1).trans HY.out
    have x0 := cells_at hxr 0 _ rfl
    have x1 := cells_at hxr 1 _ rfl
    have y0 := cells_at hyr 0 _ rfl
    have y1 := cells_at hyr 1 _ rfl
    clear hxr hyr
    by_cases hlt : j < us.length
    · have hlen := HL.out
      have hlt' : j < vs.length := by omega
      rw [List.drop_eq_getElem_cons (l := us) hlt, List.drop_eq_getElem_cons (l := vs) hlt'] at hk
      simp only [Tm.cmpL] at hk
      obtain ⟨b, off, rfl, hb, hI⟩ := HA.out (by intro e; rw [e] at hlt; simp at hlt)
      obtain ⟨b', off', rfl, hb', hI'⟩ := HA'.out (by intro e; rw [e] at hlt'; simp at hlt')
      obtain ⟨c0, c1, c2, c3, f0, f1, f2, f3, hc⟩ := hI.at j hlt
      obtain ⟨d0, d1, d2, d3, k0, k1, k2, k3, hd⟩ := hI'.at j hlt'
      have hsz := hBr.size
      have g0 := (hBr.cell (p := ⟨b, off + j * 4, none⟩) (by show b < _; omega)).trans f0
      have g1 := (hBr.cell (p := ⟨b, off + j * 4 + 1, none⟩) (by show b < _; omega)).trans f1
      have g2 := (hBr.cell (p := ⟨b, off + j * 4 + 2, none⟩) (by show b < _; omega)).trans f2
      have g3 := (hBr.cell (p := ⟨b, off + j * 4 + 3, none⟩) (by show b < _; omega)).trans f3
      have l0 := (hBr.cell (p := ⟨b', off' + j * 4, none⟩) (by show b' < _; omega)).trans k0
      have l1 := (hBr.cell (p := ⟨b', off' + j * 4 + 1, none⟩) (by show b' < _; omega)).trans k1
      have l2 := (hBr.cell (p := ⟨b', off' + j * 4 + 2, none⟩) (by show b' < _; omega)).trans k2
      have l3 := (hBr.cell (p := ⟨b', off' + j * 4 + 3, none⟩) (by show b' < _; omega)).trans k3
      have hct : us[j].count ≤ 1000000 := by
        have h1 := HC.out
        have h2 := Tm.count_mem (List.getElem_mem hlt)
        unfold cntA at h1
        simp only at h1
        omega
      have HS := Lib.hid (rcompare_any us[j] vs[j] c0 c1 c2 c3 d0 d1 d2 d3 wr.drew ((hc.below hBr.drew).mono hBr.drew.size) ((hd.below hBr.drew).mono hBr.drew.size) hct)
      have HBD := Lib.hid (show Below W.heap.size W wr.drew from hBr.drew)
      have HSD := Lib.hid (show W.heap.size ≤ wr.drew.heap.size from hsz)
      obtain ⟨z, hz⟩ : ∃ z, Tm.cmp us[j] vs[j] = z := ⟨_, rfl⟩
      rw [hz] at hk HS
      clear f0 f1 f2 f3 k0 k1 k2 k3 hc hd hz hsz hlen hct hBr
      have i1 : (0 : Int) ≤ (j : Int) := by omega
      have i2 : (j : Int) < (us.length : Int) := by omega
      have i3 : (j : Int) < (vs.length : Int) := by omega
      by_cases hz0 : z = 0
      all_goals
        first | rw [if_neg (by simpa using hz0)] at hk | rw [if_pos hz0] at hk
        have HK := Lib.hid hk
        have HZ0 := Lib.hid hz0
        first | have e2 : (z != 0) = true := bne_iff_ne.2 hz0 | have e2 : (z != 0) = false := by rw [hz0]; rfl
        clear hk hz0
        go_wp2_with fail
        go_still_tail 10, (by kernel_rfl)
        change wpList _ _ _ _ _ wr.drew
        go_wp2_with (go_at_call 48; refine HS.out.mono ?_)
        clear HS
        rintro e W2 ⟨rfl, hB2⟩
        have HB2 := Lib.hid (show Below W.heap.size W W2 from HBD.out.trans (hB2.mono HSD.out))
        clear hB2
        go_wp2_with fail
      · go_roundw
        case rel => exact ⟨j + 1, by omega, by go_num, HK.out, HB2.out⟩
        case measure => simp [intOf]; omega
      · go_ret
        exact ⟨by rw [HRR.out, ← HK.out]; rfl, below_then HB.out HB2.out⟩
    · rw [List.drop_eq_nil_of_le (by omega), List.drop_eq_nil_of_le (by have := HL.out; omega)] at hk
      simp only [Tm.cmpL] at hk
      have HK := Lib.hid hk
      have HBR := Lib.hid hBr
      clear hBr hk
      go_wp2
      go_ret
      exact ⟨by rw [HRR.out, ← HK.out]; rfl, below_then HB.out HBR.out⟩
end Go.Proofs.YtcoieohbmkjpoaaGreatDoor
