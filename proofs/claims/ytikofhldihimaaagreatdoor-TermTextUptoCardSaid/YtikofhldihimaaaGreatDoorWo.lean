/- Package term, texts: writeOperands. -/
import Derived.Test.YtikofhldihimaaaGreatDoorWr
namespace Go.Proofs.YtikofhldihimaaaGreatDoor
open Go.RowKit

set_option maxRecDepth 100000 in
set_option maxHeartbeats 4000000 in
theorem writeOperands_any (k n : Int) (s : ByteArray) (us : List Tm) (ih : ∀ t ∈ us, WrAt t) (sign : ByteArray) (B b : Nat) (bs : List UInt8) (c0 c1 c2 c3 : Value) (w : World) (ht : IsTm B w c0 c1 c2 c3 (.mk k n s us)) (hb : Bld B b bs w)
    (hlen : bs.length + (Tm.textO (strengthI k s us.length) us.length sign.data.toList 0 us).length ≤ 140737488355328) (hBw : B ≤ w.heap.size) (hgB : 0 < B) (htab : Lib.TabIs Tryz.prog w "internal/strconv.uint64pow10" .u64 Lib.pow10Tab) :
    Calls Tryz.prog 31 #[.pointer (some ⟨b, 0, none⟩), .agg #[c0, c1, c2, c3], .string sign] w fun e w' => e = .returned (.tuple #[]) ∧ Bld B b (bs ++ Tm.textO (strengthI k s us.length) us.length sign.data.toList 0 us) w' ∧ Below B w w' ∧ KeepT w w' := by
  have HTT := Lib.hid ht
  simp only [IsTm] at ht
  obtain ⟨rfl, hk, rfl, hnn, rfl, hs, a, cap, rfl, hl, hargs⟩ := ht
  have HA := Lib.hid hargs; clear hargs
  have IH := Lib.hid ih; clear ih
  have HT := Lib.hid htab; clear htab
  have HL := Lib.hid hlen; clear hlen
  have HM := Lib.hid hl
  unfold maxLen at hl
  generalize hst : strengthI k s us.length = o
  rw [hst] at HL
  have HST := Lib.hid hst; clear hst
  have hx := World.alloc_heap_new w (.cells #[.int .u8 k, .int .i64 n, .string s, .slice a us.length cap] 24)
  have hBe : Below w.heap.size w (w.alloc (.cells #[.int .u8 k, .int .i64 n, .string s, .slice a us.length cap] 24)) := (Below.refl _ w).alloc (Nat.le_refl _) _
  have HX := Lib.hid hx
  have HB1 := Lib.hid (hb.below hBe)
  have hBw1 : Below B w (w.alloc (.cells #[.int .u8 k, .int .i64 n, .string s, .slice a us.length cap] 24)) := hBe.mono hBw
  have HK1 := Lib.hid (KeepT.below hBe)
  clear hx hBe hb
  go_enter Tryz.func31, Tryz.ntmps31
  go_wp2_with fail
  revert HX HB1 hBw1 HK1
  generalize w.alloc (.cells #[.int .u8 k, .int .i64 n, .string s, .slice a us.length cap] 24) = w1
  intro HX HB1 hBw1 HK1
  go_loopw [11] (fun i wr => ∃ (j : Nat) (acc : List UInt8), j ≤ us.length ∧ i = .int .i64 j ∧ Hid (acc ++ Tm.textO o us.length sign.data.toList j (us.drop j) = bs ++ Tm.textO o us.length sign.data.toList 0 us) ∧
      Hid (Bld B b acc wr) ∧ Below B w wr ∧ Hid (KeepT w1 wr) ∧ Hid (KeepT w wr)) (fun i _ => us.length - (intOf i).toNat)
  case atStart => exact ⟨0, bs, Nat.zero_le _, rfl, rfl, HB1, hBw1, KeepT.refl _, HK1⟩
  case round =>
    obtain ⟨j, acc, hj, rfl, HE, HB, hBr, HK, HKw⟩ := hrel
    have hsz := hBr.size
    have HTr := Lib.hid (tab_below hBr hgB HT.out)
    have hxr := HK.out _ _ _ _ (by decide) (by decide) HX.out
    have t0 := cells_at hxr 0 _ rfl
    have t1 := cells_at hxr 1 _ rfl
    have t2 := cells_at hxr 2 _ rfl
    have t3 := cells_at hxr 3 _ rfl
    have HXR := Lib.hid hxr
    have hltw : w.heap.size < wr.heap.size := (Array.getElem?_eq_some_iff.1 hxr).1
    clear hxr
    by_cases hlt : j < us.length
    · obtain ⟨b1, off, ha1, hb1, hI1⟩ := HA.out (by intro e; rw [e] at hlt; simp at hlt)
      subst ha1
      obtain ⟨d0, d1, d2, d3, e0, e1, e2, e3, hc4⟩ := hI1.at j hlt
      have g0 := (hBr.cell (p := ⟨b1, off + j * 4, none⟩) hb1).trans e0
      have g1 := (hBr.cell (p := ⟨b1, off + j * 4 + 1, none⟩) hb1).trans e1
      have g2 := (hBr.cell (p := ⟨b1, off + j * 4 + 2, none⟩) hb1).trans e2
      have g3 := (hBr.cell (p := ⟨b1, off + j * 4 + 3, none⟩) hb1).trans e3
      have hd1 := hc4.below hBr
      obtain ⟨k', n', s', us', hq⟩ : ∃ k' n' s' us', us[j] = .mk k' n' s' us' := by cases us[j]; exact ⟨_, _, _, _, rfl⟩
      have hda : us.drop j = us[j] :: us.drop (j + 1) := List.drop_eq_getElem_cons hlt
      have HDA := Lib.hid hda; clear hda
      rw [hq] at hc4
      simp only [IsTm] at hc4
      obtain ⟨rfl, _, rfl, _, rfl, _, a', cap', rfl, _, _⟩ := hc4
      have HD1 := Lib.hid hd1
      clear e0 e1 e2 e3 hd1 hq
      have hlt1 : b1 < wr.heap.size := by omega
      have HLE := Lib.hid (show acc.length + ((if j + 1 = us.length then sign.data.toList else []).length + ((if enclosedB o j us[j] then 40 :: (us[j].text ++ [41]) else us[j].text).length)) ≤ 140737488355328 by
        have h1 := congrArg List.length HE.out
        have h2 := HL.out
        rw [HDA.out] at h1
        simp only [Tm.textO, List.length_append] at h1 h2 ⊢
        omega)
      have hBa : Below wr.heap.size wr (wr.alloc (.cells #[.int .u8 k', .int .i64 n', .string s', .slice a' us'.length cap'] 24)) := (Below.refl _ wr).alloc (Nat.le_refl _) _
      have HX2 := Lib.hid (World.alloc_heap_new wr (.cells #[.int .u8 k', .int .i64 n', .string s', .slice a' us'.length cap'] 24))
      have HB2 := Lib.hid (HB.out.below hBa)
      have HXR2 := Lib.hid ((hBa.block _ hltw).trans HXR.out)
      have HBA := Lib.hid hBa; clear hBa
      have HTQ := Lib.hid (HTT.out.below hBr)
      by_cases hlast : j + 1 = us.length
      · have HLA := Lib.hid hlast
        have hlb : ((j : Int) == (us.length : Int) - 1) = true := by rw [beq_iff_eq]; omega
        clear hlast
        have HP := Lib.hid (put_any B b acc sign _ HB2.out (by have := HLE.out; rw [if_pos HLA.out] at this; have e : sign.data.toList.length = sign.size := Array.length_toList; rw [e] at this; omega) (by simp; omega))
        go_wp2_with (go_at_call 28; refine HP.out.mono ?_)
        clear HP
        rintro e w2 ⟨rfl, hb2, hB2, hK2⟩
        have HBX := Lib.hid hb2
        have hBr2 : Below B wr w2 := (HBA.out.mono (by omega)).trans hB2
        have HK2 := Lib.hid ((KeepT.below HBA.out).trans hK2)
        have HX3 := Lib.hid (hK2 _ _ _ _ (by decide) (by decide) HX2.out)
        have HX4 := Lib.hid (hK2 _ _ _ _ (by decide) (by decide) HXR2.out)
        clear hb2 hB2 hK2 HX2 HXR2 HB2
        have HACC : Hid (acc ++ sign.data.toList = acc ++ (if j + 1 = us.length then sign.data.toList else [])) := by show _ = _; rw [if_pos HLA.out]
        revert HBX HACC
        generalize acc ++ sign.data.toList = acc1
        intro HBX HACC
        clear t0 t1 t2 t3 g0 g1 g2 g3
        have hx3 := HX3.out
        have hx4 := HX4.out
        have x0 := cells_at hx3 0 _ rfl
        have x1 := cells_at hx3 1 _ rfl
        have x2 := cells_at hx3 2 _ rfl
        have x3 := cells_at hx3 3 _ rfl
        have y0 := cells_at hx4 0 _ rfl
        have y1 := cells_at hx4 1 _ rfl
        have y2 := cells_at hx4 2 _ rfl
        have y3 := cells_at hx4 3 _ rfl
        clear hx3 hx4
        have hz2 := hBr2.size
        have HEN := Lib.hid (show Calls Tryz.prog 53 #[.agg #[.int .u8 k, .int .i64 n, .string s, .slice (some ⟨b1, off, none⟩) us.length cap], .int .i64 j] w2 (fun e w' => e = .returned (.bool (enclosedB o j us[j])) ∧ Below w2.heap.size w2 w') by
          have := enclosed_any B k n s us j hlt _ _ _ _ w2 (HTQ.out.below hBr2) (by omega)
          rw [HST.out] at this; exact this)
        cases hen : enclosedB o j us[j]
        · have HENC := Lib.hid hen
          go_wp2_with (go_at_call 53; refine HEN.out.mono ?_)
          clear HEN
          rintro e w3 ⟨rfl, hB3⟩
          have hBr3 : Below B wr w3 := hBr2.trans (hB3.mono (by omega))
          have hx5 := (hB3.block _ (Array.getElem?_eq_some_iff.1 HX3.out).1).trans HX3.out
          have z0 := cells_at hx5 0 _ rfl
          have z1 := cells_at hx5 1 _ rfl
          have z2 := cells_at hx5 2 _ rfl
          have z3 := cells_at hx5 3 _ rfl
          have HW := Lib.hid (IH.out _ (List.getElem_mem hlt) B b _ _ _ _ _ _ (HD1.out.below hBr3) (HBX.out.below hB3) (by have := HLE.out; rw [HENC.out] at this; rw [HACC.out]; simp only [List.length_append, Bool.false_eq_true, if_false] at this ⊢; omega) (by have := hBr3.size; omega) hgB (tab_below hBr3 hgB HTr.out))
          have HK3 := Lib.hid (HK2.out.trans (KeepT.below hB3))
          clear hx5 hB3 x0 x1 x2 x3 y0 y1 y2 y3
          go_wp2_with (go_at_call 20; refine HW.out.mono ?_)
          clear HW
          rintro e w5 ⟨rfl, hb5, hB5, hK5⟩
          have HB5 := Lib.hid hb5; clear hb5
          have HK5 := Lib.hid (HK3.out.trans hK5); clear hK5
          go_wp2_with fail
          go_roundw
          case rel =>
            refine ⟨j + 1, _, by omega, by go_num, ?_, HB5, (hBr.trans hBr3).trans hB5, HK.out.trans HK5.out, HKw.out.trans HK5.out⟩
            show _ = _
            rw [← HE.out, HDA.out, HACC.out]
            simp only [Tm.textO, List.append_assoc, HENC.out, Bool.false_eq_true, if_false]
          case measure => simp [intOf]; omega
        · have HENC := Lib.hid hen
          go_wp2_with (go_at_call 53; refine HEN.out.mono ?_)
          clear HEN
          rintro e w3 ⟨rfl, hB3⟩
          have hBr3 : Below B wr w3 := hBr2.trans (hB3.mono (by omega))
          have HX5 := Lib.hid ((hB3.block _ (Array.getElem?_eq_some_iff.1 HX3.out).1).trans HX3.out)
          have HK3 := Lib.hid (HK2.out.trans (KeepT.below hB3))
          have HLE2 := Lib.hid (show (acc ++ (if j + 1 = us.length then sign.data.toList else [])).length + (1 + (us[j].text.length + 1)) ≤ 140737488355328 by
            have := HLE.out; rw [HENC.out] at this; simp only [List.length_append, if_true, List.length_cons, List.length_nil] at this ⊢; omega)
          have HP := Lib.hid (put_any B b _ ⟨#[40]⟩ _ (HBX.out.below hB3) (by rw [HACC.out]; have := HLE2.out; show _ + 1 ≤ _; omega) (by have := hBr3.size; omega))
          clear hB3 x0 x1 x2 x3 y0 y1 y2 y3
          go_wp2_with (go_at_call 28; refine HP.out.mono ?_)
          clear HP
          rintro e w4 ⟨rfl, hb4, hB4, hK4⟩
          have hBr4 : Below B wr w4 := hBr3.trans hB4
          have hx6 := hK4 _ _ _ _ (by decide) (by decide) HX5.out
          have z0 := cells_at hx6 0 _ rfl
          have z1 := cells_at hx6 1 _ rfl
          have z2 := cells_at hx6 2 _ rfl
          have z3 := cells_at hx6 3 _ rfl
          have HW := Lib.hid (IH.out _ (List.getElem_mem hlt) B b _ _ _ _ _ _ (HD1.out.below hBr4) hb4 (by rw [HACC.out]; have := HLE2.out; simp only [List.length_append, List.length_cons, List.length_nil] at this ⊢; omega) (by have := hBr4.size; omega) hgB (tab_below hBr4 hgB HTr.out))
          have HK4 := Lib.hid (HK3.out.trans hK4)
          clear hx6 hb4 hB4 hK4
          go_wp2_with (go_at_call 20; refine HW.out.mono ?_)
          clear HW
          rintro e w5 ⟨rfl, hb5, hB5, hK5⟩
          have hBr5 : Below B wr w5 := hBr4.trans hB5
          have HP := Lib.hid (put_any B b _ ⟨#[41]⟩ _ hb5 (by rw [HACC.out]; have := HLE2.out; simp only [List.length_append, List.length_cons, List.length_nil] at this ⊢; show _ + 1 ≤ _; omega) (by have := hBr5.size; omega))
          have HK5 := Lib.hid (HK4.out.trans hK5)
          clear hb5 hK5 hB5 z0 z1 z2 z3
          go_wp2_with (go_at_call 28; refine HP.out.mono ?_)
          clear HP
          rintro e w6 ⟨rfl, hb6, hB6, hK6⟩
          have HB6 := Lib.hid hb6; clear hb6
          have HK6 := Lib.hid (HK5.out.trans hK6); clear hK6
          go_wp2_with fail
          go_roundw
          case rel =>
            refine ⟨j + 1, _, by omega, by go_num, ?_, HB6, (hBr.trans hBr5).trans hB6, HK.out.trans HK6.out, HKw.out.trans HK6.out⟩
            show _ = _
            rw [← HE.out, HDA.out, HACC.out]
            simp only [Tm.textO, List.append_assoc, HENC.out, if_true, List.cons_append, List.nil_append]
          case measure => simp [intOf]; omega
      · have HLA := Lib.hid hlast
        have hlb : ((j : Int) == (us.length : Int) - 1) = false := by rw [beq_eq_false_iff_ne]; omega
        clear hlast
        obtain ⟨w2, hw2⟩ : ∃ w2, wr.alloc (.cells #[.int .u8 k', .int .i64 n', .string s', .slice a' us'.length cap'] 24) = w2 := ⟨_, rfl⟩
        have hBr2 : Below B wr w2 := by rw [← hw2]; exact HBA.out.mono (by omega)
        have HK2 : Hid (KeepT wr w2) := by rw [← hw2]; exact KeepT.below HBA.out
        have HX3 : Hid (w2.heap[wr.heap.size]? = some (.cells #[.int .u8 k', .int .i64 n', .string s', .slice a' us'.length cap'] 24 (0, 0))) := by rw [← hw2]; exact HX2.out
        have HX4 : Hid (w2.heap[w.heap.size]? = some (.cells #[.int .u8 k, .int .i64 n, .string s, .slice (some ⟨b1, off, none⟩) us.length cap] 24 (0, 0))) := by rw [← hw2]; exact HXR2.out
        obtain ⟨acc1, hacc1⟩ : ∃ acc1, acc1 = acc := ⟨_, rfl⟩
        have HBX : Hid (Bld B b acc1 w2) := by rw [← hw2, hacc1]; exact HB2.out
        have HACC : Hid (acc1 = acc ++ (if j + 1 = us.length then sign.data.toList else [])) := by show _ = _; rw [if_neg HLA.out, hacc1]; simp
        clear hacc1
        have HW2 := Lib.hid hw2
        clear hw2 HX2 HXR2 HB2
        go_wp2_with fail
        rw [HW2.out]
        clear HW2
        clear t0 t1 t2 t3 g0 g1 g2 g3
        have hx3 := HX3.out
        have hx4 := HX4.out
        have x0 := cells_at hx3 0 _ rfl
        have x1 := cells_at hx3 1 _ rfl
        have x2 := cells_at hx3 2 _ rfl
        have x3 := cells_at hx3 3 _ rfl
        have y0 := cells_at hx4 0 _ rfl
        have y1 := cells_at hx4 1 _ rfl
        have y2 := cells_at hx4 2 _ rfl
        have y3 := cells_at hx4 3 _ rfl
        clear hx3 hx4
        have hz2 := hBr2.size
        have HEN := Lib.hid (show Calls Tryz.prog 53 #[.agg #[.int .u8 k, .int .i64 n, .string s, .slice (some ⟨b1, off, none⟩) us.length cap], .int .i64 j] w2 (fun e w' => e = .returned (.bool (enclosedB o j us[j])) ∧ Below w2.heap.size w2 w') by
          have := enclosed_any B k n s us j hlt _ _ _ _ w2 (HTQ.out.below hBr2) (by omega)
          rw [HST.out] at this; exact this)
        cases hen : enclosedB o j us[j]
        · have HENC := Lib.hid hen
          go_wp2_with (go_at_call 53; refine HEN.out.mono ?_)
          clear HEN
          rintro e w3 ⟨rfl, hB3⟩
          have hBr3 : Below B wr w3 := hBr2.trans (hB3.mono (by omega))
          have hx5 := (hB3.block _ (Array.getElem?_eq_some_iff.1 HX3.out).1).trans HX3.out
          have z0 := cells_at hx5 0 _ rfl
          have z1 := cells_at hx5 1 _ rfl
          have z2 := cells_at hx5 2 _ rfl
          have z3 := cells_at hx5 3 _ rfl
          have HW := Lib.hid (IH.out _ (List.getElem_mem hlt) B b _ _ _ _ _ _ (HD1.out.below hBr3) (HBX.out.below hB3) (by have := HLE.out; rw [HENC.out] at this; rw [HACC.out]; simp only [List.length_append, Bool.false_eq_true, if_false] at this ⊢; omega) (by have := hBr3.size; omega) hgB (tab_below hBr3 hgB HTr.out))
          have HK3 := Lib.hid (HK2.out.trans (KeepT.below hB3))
          clear hx5 hB3 x0 x1 x2 x3 y0 y1 y2 y3
          go_wp2_with (go_at_call 20; refine HW.out.mono ?_)
          clear HW
          rintro e w5 ⟨rfl, hb5, hB5, hK5⟩
          have HB5 := Lib.hid hb5; clear hb5
          have HK5 := Lib.hid (HK3.out.trans hK5); clear hK5
          go_wp2_with fail
          go_roundw
          case rel =>
            refine ⟨j + 1, _, by omega, by go_num, ?_, HB5, (hBr.trans hBr3).trans hB5, HK.out.trans HK5.out, HKw.out.trans HK5.out⟩
            show _ = _
            rw [← HE.out, HDA.out, HACC.out]
            simp only [Tm.textO, List.append_assoc, HENC.out, Bool.false_eq_true, if_false]
          case measure => simp [intOf]; omega
        · have HENC := Lib.hid hen
          go_wp2_with (go_at_call 53; refine HEN.out.mono ?_)
          clear HEN
          rintro e w3 ⟨rfl, hB3⟩
          have hBr3 : Below B wr w3 := hBr2.trans (hB3.mono (by omega))
          have HX5 := Lib.hid ((hB3.block _ (Array.getElem?_eq_some_iff.1 HX3.out).1).trans HX3.out)
          have HK3 := Lib.hid (HK2.out.trans (KeepT.below hB3))
          have HLE2 := Lib.hid (show (acc ++ (if j + 1 = us.length then sign.data.toList else [])).length + (1 + (us[j].text.length + 1)) ≤ 140737488355328 by
            have := HLE.out; rw [HENC.out] at this; simp only [List.length_append, if_true, List.length_cons, List.length_nil] at this ⊢; omega)
          have HP := Lib.hid (put_any B b _ ⟨#[40]⟩ _ (HBX.out.below hB3) (by rw [HACC.out]; have := HLE2.out; show _ + 1 ≤ _; omega) (by have := hBr3.size; omega))
          clear hB3 x0 x1 x2 x3 y0 y1 y2 y3
          go_wp2_with (go_at_call 28; refine HP.out.mono ?_)
          clear HP
          rintro e w4 ⟨rfl, hb4, hB4, hK4⟩
          have hBr4 : Below B wr w4 := hBr3.trans hB4
          have hx6 := hK4 _ _ _ _ (by decide) (by decide) HX5.out
          have z0 := cells_at hx6 0 _ rfl
          have z1 := cells_at hx6 1 _ rfl
          have z2 := cells_at hx6 2 _ rfl
          have z3 := cells_at hx6 3 _ rfl
          have HW := Lib.hid (IH.out _ (List.getElem_mem hlt) B b _ _ _ _ _ _ (HD1.out.below hBr4) hb4 (by rw [HACC.out]; have := HLE2.out; simp only [List.length_append, List.length_cons, List.length_nil] at this ⊢; omega) (by have := hBr4.size; omega) hgB (tab_below hBr4 hgB HTr.out))
          have HK4 := Lib.hid (HK3.out.trans hK4)
          clear hx6 hb4 hB4 hK4
          go_wp2_with (go_at_call 20; refine HW.out.mono ?_)
          clear HW
          rintro e w5 ⟨rfl, hb5, hB5, hK5⟩
          have hBr5 : Below B wr w5 := hBr4.trans hB5
          have HP := Lib.hid (put_any B b _ ⟨#[41]⟩ _ hb5 (by rw [HACC.out]; have := HLE2.out; simp only [List.length_append, List.length_cons, List.length_nil] at this ⊢; show _ + 1 ≤ _; omega) (by have := hBr5.size; omega))
          have HK5 := Lib.hid (HK4.out.trans hK5)
          clear hb5 hK5 hB5 z0 z1 z2 z3
          go_wp2_with (go_at_call 28; refine HP.out.mono ?_)
          clear HP
          rintro e w6 ⟨rfl, hb6, hB6, hK6⟩
          have HB6 := Lib.hid hb6; clear hb6
          have HK6 := Lib.hid (HK5.out.trans hK6); clear hK6
          go_wp2_with fail
          go_roundw
          case rel =>
            refine ⟨j + 1, _, by omega, by go_num, ?_, HB6, (hBr.trans hBr5).trans hB6, HK.out.trans HK6.out, HKw.out.trans HK6.out⟩
            show _ = _
            rw [← HE.out, HDA.out, HACC.out]
            simp only [Tm.textO, List.append_assoc, HENC.out, if_true, List.cons_append, List.nil_append]
          case measure => simp [intOf]; omega
    · have hda : us.drop j = [] := List.drop_eq_nil_of_le (by omega)
      have hacc : acc = bs ++ Tm.textO o us.length sign.data.toList 0 us := by have := HE.out; rw [hda] at this; simpa [Tm.textO] using this
      have HACC := Lib.hid hacc
      clear hacc hda
      go_wp2
      go_end0
      refine ⟨rfl, ?_, hBr, HKw.out⟩
      have := HB.out
      rw [HACC.out] at this
      exact this
end Go.Proofs.YtikofhldihimaaaGreatDoor
