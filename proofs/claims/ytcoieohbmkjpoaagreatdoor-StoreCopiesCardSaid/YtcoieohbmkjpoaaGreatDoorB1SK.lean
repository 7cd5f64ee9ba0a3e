/- fill, Copy. -/
import Derived.Test.YtcoieohbmkjpoaaGreatDoorB1S1
namespace Go.Proofs.YtcoieohbmkjpoaaGreatDoor
open Go.RowKit Go.Shelf Go.Maps
attribute [local go_sem] Oper.semAt_some

theorem StI.lower {w : World} {B B' : Nat} {lab : Lab} {S : Nat} {L : List Ato} (h : StI w B lab S L) (hB : B' ≤ B) (hg : 3 < B') : StI w B' lab S L :=
  ⟨h.tab, hg, fun b hb => ⟨Nat.le_trans hB (h.mine b hb).1, (h.mine b hb).2⟩, h.good, h.len, h.mem⟩
set_option maxRecDepth 100000 in
set_option maxHeartbeats 8000000 in
theorem fill_any (B T : Nat) (lab : Lab) (L : List Ato) (lv : Value) (w0 w : World) (hI : StI w B lab T []) (hB : B ≤ w.heap.size) (h0 : LstR w0 lv L) (hz : w0.heap.size ≤ B) (hb0 : Below w0.heap.size w0 w) (hv : ∀ x ∈ L, validA x = true ∧ cntA x ≤ 1000000) (hlen : L.length ≤ 2000) :
    Calls Tryz.prog 61 #[.pointer (some ⟨T, 0, none⟩), lv, .func (.methodOf 31 "ostler/store.insert") #[] #[]] w fun e w' => e = .returned (.pointer (some ⟨T, 0, none⟩)) ∧ ∃ lab', StI w' B lab' T L ∧ Below B w w' := by
  obtain ⟨al, cl, rfl⟩ := h0.shape
  have HL := Lib.hid h0
  have HZ := Lib.hid hz
  have HB0 := Lib.hid hb0
  have HV := Lib.hid hv
  have HI := Lib.hid hI
  have HB := Lib.hid hB
  have HLN := Lib.hid hlen
  have hll : L.length ≤ 9223372036854775807 := by omega
  clear h0 hz hb0 hv hI hB hlen
  go_enter Tryz.func61, Tryz.ntmps61
  go_wp2_with fail
  go_loopw [11] (fun i wr => ∃ (j : Nat) (lab : Lab), j ≤ L.length ∧ i = .int .i64 j ∧ StI wr B lab T (L.take j) ∧ Below B w wr) (fun i _ => L.length - (intOf i).toNat)
  case atStart => exact ⟨0, lab, by omega, by go_num, by simpa using HI.out, Below.refl _ _⟩
  case round =>
    obtain ⟨j, lab2, hj, rfl, hI, hBr⟩ := hrel
    by_cases hlt : j < L.length
    · obtain ⟨g, cc, ax, cx, e, g0, g1, hx⟩ := HL.out.at j hlt
      simp only [Value.slice.injEq] at e
      obtain ⟨rfl, _, rfl⟩ := e
      have hbw : Below w0.heap.size w0 wr := HB0.out.trans (hBr.mono HZ.out)
      have x0 := (hbw.cell (p := ⟨g, j * 2, none⟩) (block_lt_of_cell g0)).trans g0
      have x1 := (hbw.cell (p := ⟨g, j * 2 + 1, none⟩) (block_lt_of_cell g1)).trans g1
      have htk := List.take_succ_eq_append_getElem hlt
      have hvx := HV.out _ (List.getElem_mem hlt)
      have hl2 : (L.take j).length < 2000 := by rw [List.length_take]; have := HLN.out; omega
      obtain ⟨X, hX⟩ : ∃ X, L[j] = X := ⟨_, rfl⟩
      rw [hX] at x0 x1 hx htk hvx
      obtain ⟨p, us⟩ := X
      simp only at x0 x1 hx
      obtain ⟨W8, hW8⟩ : ∃ X, wr.alloc (.cells #[.string p, .slice ax us.length cx] 24) = X := ⟨_, rfl⟩
      have hb8 : Below wr.heap.size wr W8 := by rw [← hW8]; exact (Below.refl _ _).alloc (Nat.le_refl _) _
      have h8 : W8.heap[wr.heap.size]? = some (.cells #[.string p, .slice ax us.length cx] 24 (0, 0)) := by rw [← hW8]; exact World.alloc_heap_new _ _
      have d0 := cells_at h8 0 _ rfl
      have d1 := cells_at h8 1 _ rfl
      have hBsz : B ≤ wr.heap.size := Nat.le_trans HB.out hBr.size
      have HINS := Lib.hid (insert_any B T lab2 (L.take j) (p, us) ax cx W8 (hI.below hb8) (hx.same (fun b hb => ⟨by have := hb8.size; have := HZ.out; omega, hI.low (by have := HZ.out; omega)⟩) (fun b hb => (hb8.block b (by have := hbw.size; omega)).trans (hbw.block b hb))) hvx.1 hvx.2 hl2)
      have HTK := Lib.hid htk
      have HB8 := Lib.hid (hBr.trans (hb8.mono hBsz))
      have HLOW := Lib.hid (show B ≤ W8.heap.size ∧ ∀ b, lab2 b ≠ .free → B ≤ b from ⟨Nat.le_trans hBsz hb8.size, fun b h => (hI.mine b h).1⟩)
      have i1 : (0 : Int) ≤ (j : Int) := by omega
      have i2 : (j : Int) < (L.length : Int) := by omega
      clear g0 g1 hx hbw htk hvx hl2 hb8 h8 hI hBr hBsz hX
      go_wp2_with (go_at_call 53; refine HINS.out.mono ?_; rintro e w9 ⟨rfl, lab9, hI9, _, hs9⟩; have HI9 := Lib.hid hI9; have HB9 := Lib.hid (HB8.out.trans (hs9.low HLOW.out.1 HLOW.out.2)); clear hI9 hs9 d0 d1 x0 x1)
      go_roundw
      case rel => exact ⟨j + 1, lab9, by omega, by go_num, by rw [HTK.out]; exact HI9.out, HB9.out⟩
      case measure => simp [intOf]; omega
    · obtain rfl : j = L.length := by omega
      rw [List.take_length] at hI
      have HIF := Lib.hid hI
      have HBF := Lib.hid hBr
      clear hI hBr
      go_wp2
      go_ret
      exact ⟨rfl, lab2, HIF.out, HBF.out⟩
def fNew (z : Nat) : VF := fun v w => ∃ T lab, v = .pointer (some ⟨T, 0, none⟩) ∧ StI w z lab T []
theorem fNew_stays (z : Nat) : Stays (fNew z) := fun _ _ _ ⟨T, lab, e, h⟩ hb => ⟨T, lab, e, h.below hb⟩
/-- What Copy gives. -/
def CopyR (w : World) (L : List Ato) (e : Ending) (w' : World) : Prop := ∃ T lab, e = .returned (.pointer (some ⟨T, 0, none⟩)) ∧ StI w' w.heap.size lab T L ∧ Below w.heap.size w w'
set_option maxRecDepth 100000 in
set_option maxHeartbeats 8000000 in
theorem copy_any (B S : Nat) (lab : Lab) (L : List Ato) (w : World) (hI : StI w B lab S L) :
    Calls Tryz.prog 26 #[.pointer (some ⟨S, 0, none⟩)] w (CopyR w L) := by
  obtain ⟨la, lc, m1, m2, m3, h0, _, _, _, hl⟩ := hI.row
  have HM := Lib.hid (made_row S _ _ _ _ w h0)
  have HS := Lib.hid h0
  have HL := Lib.hid hl.read
  have HT := Lib.hid hI.tab
  have HV := Lib.hid hI.good
  have HLN := Lib.hid hI.len
  clear hI h0 hl
  go_enter Tryz.func26, Tryz.ntmps26
  go_wp2_with (go_at_call 50; refine HM.out.mono ?_; rintro e w1 ⟨rfl, rfl⟩)
  have hst := @FL_grow [fNew w1.heap.size, fV (.pointer (some ⟨S, 0, none⟩)), fV (.pointer (some ⟨S, 0, none⟩)), fV (.pointer (some ⟨S, 0, none⟩)), fV (.pointer (some ⟨S, 0, none⟩)), fV (.slice la L.length lc), fV (.func (.methodOf 31 "ostler/store.insert") #[] #[])] (by
    intro F hF
    simp only [List.mem_cons, List.not_mem_nil, or_false] at hF
    rcases hF with rfl | rfl | rfl | rfl | rfl | rfl | rfl <;> first | exact fV_stays _ | exact fNew_stays _)
  refine wp_region_grow_tail (by kernel_rfl) 7 (FL [fNew w1.heap.size, fV (.pointer (some ⟨S, 0, none⟩)), fV (.pointer (some ⟨S, 0, none⟩)), fV (.pointer (some ⟨S, 0, none⟩)), fV (.pointer (some ⟨S, 0, none⟩)), fV (.slice la L.length lc), fV (.func (.methodOf 31 "ostler/store.insert") #[] #[])]) hst (by kernel_rfl) (by kernel_rfl) (steps_to ?_) ?_
  · simp only [List.take_succ_cons, List.take_zero]
    refine ⟨?_, ?_, ?_, ?_, ?_, ?_, ?_, trivial⟩
    · intro a wx hb hd hs ho hp
      refine ⟨rfl, ?_⟩
      unfold Oper.wp
      go_simp
      refine (new_any wx (HT.out.below hb)).mono ?_
      rintro e w9 ⟨T, lab9, rfl, hI9, hb9⟩
      exact Stepped.at (v := .pointer (some ⟨T, 0, none⟩)) rfl hd hb9 ⟨T, lab9, rfl, hI9.lower hb.size HT.out.1⟩
    · intro a wx hb hd hs ho hp
      refine ⟨rfl, ?_⟩
      have h0 : a.tmps.getD 0 undef = .pointer (some ⟨S, 0, none⟩) := (ho 0 (by kernel_rfl)).trans rfl
      unfold Oper.wp
      go_simp
      exact Stepped.at (v := .pointer (some ⟨S, 0, none⟩)) (by first | rfl | simp) hd (Below.refl _ _) rfl
    · intro a wx hb hd hs ho hp
      refine ⟨rfl, ?_⟩
      have h7 : a.tmps.getD 7 undef = .pointer (some ⟨S, 0, none⟩) := facts_at hp 1 7 (by kernel_rfl)
      unfold Oper.wp
      go_simp
      exact Stepped.at (v := .pointer (some ⟨S, 0, none⟩)) (by first | rfl | simp) hd (Below.refl _ _) rfl
    · intro a wx hb hd hs ho hp
      refine ⟨rfl, ?_⟩
      have h8 : a.tmps.getD 8 undef = .pointer (some ⟨S, 0, none⟩) := facts_at hp 2 8 (by kernel_rfl)
      unfold Oper.wp
      go_simp
      exact Stepped.at (v := .pointer (some ⟨S, 0, none⟩)) (by first | rfl | simp) hd (Below.refl _ _) rfl
    · intro a wx hb hd hs ho hp
      refine ⟨rfl, ?_⟩
      have h9 : a.tmps.getD 9 undef = .pointer (some ⟨S, 0, none⟩) := facts_at hp 3 9 (by kernel_rfl)
      unfold Oper.wp
      go_simp
      exact Stepped.at (v := .pointer (some ⟨S, 0, none⟩)) (by first | rfl | simp) hd (Below.refl _ _) rfl
    · intro a wx hb hd hs ho hp
      refine ⟨rfl, ?_⟩
      have h10 : a.tmps.getD 10 undef = .pointer (some ⟨S, 0, none⟩) := facts_at hp 4 10 (by kernel_rfl)
      have hx := (hb.block S (Array.getElem?_eq_some_iff.1 HS.out).1).trans HS.out
      have x0 := cells_at hx 0 _ rfl
      unfold Oper.wp
      go_simp
      exact Stepped.at (v := .slice la L.length lc) (by first | rfl | simp) hd (Below.refl _ _) rfl
    · intro a wx hb hd hs ho hp
      refine ⟨rfl, ?_⟩
      unfold Oper.wp
      go_simp
      exact Stepped.at (v := .func (.methodOf 31 "ostler/store.insert") #[] #[]) (by first | rfl | simp) hd (Below.refl _ _) rfl
  intro ac W2 hBelow hDefers hTmps hOuter hf
  have g6 := facts_to hf 0 6 (by decide) (by kernel_rfl)
  obtain ⟨v6, f6⟩ : ∃ u, ac.tmps.getD 6 undef = u := ⟨_, rfl⟩
  rw [f6] at g6
  obtain ⟨u7, f7⟩ : ∃ u, ac.tmps.getD 7 undef = u := ⟨_, rfl⟩
  obtain ⟨u8, f8⟩ : ∃ u, ac.tmps.getD 8 undef = u := ⟨_, rfl⟩
  obtain ⟨u9, f9⟩ : ∃ u, ac.tmps.getD 9 undef = u := ⟨_, rfl⟩
  obtain ⟨u10, f10⟩ : ∃ u, ac.tmps.getD 10 undef = u := ⟨_, rfl⟩
  have f11 : ac.tmps.getD 11 undef = .slice la L.length lc := facts_to hf 5 11 (by decide) (by kernel_rfl)
  have f12 : ac.tmps.getD 12 undef = .func (.methodOf 31 "ostler/store.insert") #[] #[] := facts_to hf 6 12 (by decide) (by kernel_rfl)
  obtain ⟨TT, DD⟩ := ac
  obtain rfl : DD = [] := hDefers
  have hE := slots_mergeR [false, false, false, false, false, false, true, true, true, true, true, true, true, false] 14 hTmps rfl (by kernel_rfl) hOuter
  simp only [mergeFrom, Nat.zero_add, Nat.reduceAdd, f6, f7, f8, f9, f10, f11, f12] at hE
  clear hst hf hOuter hTmps f6 f7 f8 f9 f10 f11 f12
  subst hE
  simp only [List.drop_succ_cons, List.drop_zero]
  obtain ⟨T, labT, rfl, hIT⟩ := g6
  have HBW := Lib.hid hBelow
  have HF := Lib.hid (fill_any w1.heap.size T labT L (.slice la L.length lc) w1 W2 hIT hBelow.size HL.out (Nat.le_refl _) hBelow HV.out HLN.out)
  clear hIT hBelow
  go_wp2_with (go_at_call 61; refine HF.out.mono ?_; rintro e w3 ⟨rfl, lab3, hI3, hb3⟩; have HI3 := Lib.hid hI3; have HB3 := Lib.hid (HBW.out.trans hb3); clear hI3 hb3)
  go_ret
  exact ⟨T, lab3, rfl, HI3.out, HB3.out⟩
end Go.Proofs.YtcoieohbmkjpoaaGreatDoor
