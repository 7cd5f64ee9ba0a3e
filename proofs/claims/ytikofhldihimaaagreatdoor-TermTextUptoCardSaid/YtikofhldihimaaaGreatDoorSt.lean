/- Package term, texts: write and String. -/
import Derived.Test.YtikofhldihimaaaGreatDoorWo
import Derived.Test.YtikofhldihimaaaGreatDoorVa
namespace Go.Proofs.YtikofhldihimaaaGreatDoor
open Go.RowKit Go.Sort

theorem below_grow (w : World) (k : Nat) (os : Array Obj) : Below w.heap.size w (grow (w.drewN k) os) :=
  ⟨rfl, rfl, rfl, by show w.heap.size ≤ (w.heap ++ os).size; simp, fun i hi => by show (w.heap ++ os)[i]? = _; rw [Array.getElem?_append, if_pos hi]⟩

theorem i64_bounds {n : Int} (h : I64 n) : -9223372036854775808 ≤ n ∧ n ≤ 9223372036854775807 := by
  unfold I64 Lit.wf at h
  simp only [Bool.and_eq_true, decide_eq_true_eq] at h
  exact h

theorem itoa_any (n : Int) (h : I64 n) (w : World) (htab : Lib.TabIs Tryz.prog w "internal/strconv.uint64pow10" .u64 Lib.pow10Tab) :
    Calls Tryz.prog 29 #[.int .i64 n] w fun e w' => e = .returned (.string ⟨(Lib.itoa n).toArray⟩) ∧ Below w.heap.size w w' :=
  (Tryz.strconv_Itoa n (i64_bounds h).1 (i64_bounds h).2 w htab).mono fun e w' ⟨he, k, os, hw⟩ => ⟨he, by rw [hw]; exact below_grow w k os⟩

theorem text_1 (n : Int) (s : ByteArray) (us : List Tm) : Tm.text (.mk 1 n s us) = Lib.itoa n := by simp only [Tm.text]; rfl
theorem text_4 (n : Int) (s : ByteArray) (us : List Tm) : Tm.text (.mk 4 n s us) = s.data.toList ++ (Tm.textF 40 us ++ [41]) := by simp only [Tm.text]; rfl
theorem text_5 (n : Int) (s : ByteArray) (us : List Tm) : Tm.text (.mk 5 n s us) = Tm.textO (strengthI 5 s us.length) us.length s.data.toList 0 us := by simp only [Tm.text]; rfl
theorem text_6 (n : Int) (s : ByteArray) (us : List Tm) : Tm.text (.mk 6 n s us) = Tm.textO (strengthI 6 s us.length) us.length [46, 46] 0 us := by simp only [Tm.text]; rfl
theorem text_0 (k n : Int) (s : ByteArray) (us : List Tm) (h : k ≠ 1 ∧ k ≠ 4 ∧ k ≠ 5 ∧ k ≠ 6) : Tm.text (.mk k n s us) = s.data.toList := by
  simp only [Tm.text]; rw [if_neg h.1, if_neg h.2.1, if_neg h.2.2.1, if_neg h.2.2.2]

set_option maxRecDepth 100000 in
set_option maxHeartbeats 2000000 in
theorem write_any (t : Tm) : WrAt t := by
  induction t using Tm.ind with
  | h k n s us ih =>
    intro B b acc c0 c1 c2 c3 w ht hb hlen hBw hgB htab
    have HTT := Lib.hid ht
    simp only [IsTm] at ht
    obtain ⟨rfl, hk, rfl, hnn, rfl, hs, a, cap, rfl, hl, hargs⟩ := ht
    have hBe : Below w.heap.size w (w.alloc (.cells #[.int .u8 k, .int .i64 n, .string s, .slice a us.length cap] 24)) := (Below.refl _ w).alloc (Nat.le_refl _) _
    have HX := Lib.hid (World.alloc_heap_new w (.cells #[.int .u8 k, .int .i64 n, .string s, .slice a us.length cap] 24))
    have HN := Lib.hid hnn
    have HB := Lib.hid (hb.below hBe)
    have HT := Lib.hid (tab_below hBe (by omega) htab)
    have HTE := Lib.hid (HTT.out.below (hBe.mono hBw))
    have HBE := Lib.hid hBe
    have HL := Lib.hid hlen
    have IH := Lib.hid ih
    clear hargs hBe hnn hb htab hlen ih
    have hcs : k = 1 ∨ k = 4 ∨ k = 5 ∨ k = 6 ∨ (k ≠ 1 ∧ k ≠ 4 ∧ k ≠ 5 ∧ k ≠ 6) := by omega
    rcases hcs with rfl | rfl | rfl | rfl | ⟨e1, e4, e5, e6⟩
    · have HC := Lib.hid (itoa_any n HN.out _ HT.out)
      go_enter Tryz.func20, Tryz.ntmps20
      go_wp2_with (go_at_call 29; refine HC.out.mono ?_)
      rintro e w2 ⟨rfl, hB2⟩
      have hl2 := HL.out
      rw [text_1] at hl2
      have HP := Lib.hid (put_any B b acc ⟨(Lib.itoa n).toArray⟩ w2 (HB.out.below hB2) (by show _ + (Lib.itoa n).toArray.size ≤ _; simpa using hl2) (by have := hB2.size; simp at this; omega))
      have HB2 := Lib.hid (HBE.out.trans (hB2.mono (by simp)))
      clear hB2 hl2
      go_wp2_with (go_at_call 28; refine HP.out.mono ?_)
      rintro e w3 ⟨rfl, hb3, hB3, hK3⟩
      have HB3 := Lib.hid hb3
      have HK3 := Lib.hid hK3
      clear hb3 hK3
      go_wp2_with fail
      go_end0
      exact ⟨rfl, by rw [text_1]; simpa using HB3.out, (HB2.out.mono hBw).trans hB3, (KeepT.below HB2.out).trans HK3.out⟩
    · have HC := Lib.hid (writeFunction_any 4 n s us IH.out B b acc _ _ _ _ _ HTE.out HB.out (by have := HL.out; rw [text_4] at this; exact this) (by simp; omega) hgB HT.out)
      go_enter Tryz.func20, Tryz.ntmps20
      go_wp2_with (go_at_call 30; refine HC.out.mono ?_)
      rintro e w3 ⟨rfl, hb3, hB3, hK3⟩
      have HB3 := Lib.hid hb3
      have HK3 := Lib.hid hK3
      clear hb3 hK3
      go_wp2_with fail
      go_end0
      exact ⟨rfl, by rw [text_4]; exact HB3.out, (HBE.out.mono hBw).trans hB3, (KeepT.below HBE.out).trans HK3.out⟩
    · have HC := Lib.hid (writeOperands_any 5 n s us IH.out s B b acc _ _ _ _ _ HTE.out HB.out (by have := HL.out; rw [text_5] at this; exact this) (by simp; omega) hgB HT.out)
      go_enter Tryz.func20, Tryz.ntmps20
      go_wp2_with (go_at_call 31; refine HC.out.mono ?_)
      rintro e w3 ⟨rfl, hb3, hB3, hK3⟩
      have HB3 := Lib.hid hb3
      have HK3 := Lib.hid hK3
      clear hb3 hK3
      go_wp2_with fail
      go_end0
      exact ⟨rfl, by rw [text_5]; exact HB3.out, (HBE.out.mono hBw).trans hB3, (KeepT.below HBE.out).trans HK3.out⟩
    · have HC := Lib.hid (writeOperands_any 6 n s us IH.out ⟨#[46, 46]⟩ B b acc _ _ _ _ _ HTE.out HB.out (by have := HL.out; rw [text_6] at this; exact this) (by simp; omega) hgB HT.out)
      go_enter Tryz.func20, Tryz.ntmps20
      go_wp2_with (go_at_call 31; refine HC.out.mono ?_)
      rintro e w3 rfl hb3 hB3 hK3
      have HB3 := Lib.hid hb3
      have HK3 := Lib.hid hK3
      clear hb3 hK3
      go_wp2_with fail
      go_end0
      exact ⟨rfl, by rw [text_6]; exact HB3.out, (HBE.out.mono hBw).trans hB3, (KeepT.below HBE.out).trans HK3.out⟩
    · have HTX := Lib.hid (text_0 k n s us ⟨e1, e4, e5, e6⟩)
      have HP := Lib.hid (put_any B b acc s _ HB.out (by have := HL.out; rw [HTX.out] at this; simpa using this) (by simp; omega))
      have g1 : (k == 1) = false := by simpa using e1
      have g4 : (k == 4) = false := by simpa using e4
      have g5 : (k == 5) = false := by simpa using e5
      have g6 : (k == 6) = false := by simpa using e6
      clear e1 e4 e5 e6
      go_enter Tryz.func20, Tryz.ntmps20
      go_wp2_with (go_at_call 28; refine HP.out.mono ?_)
      rintro e w3 ⟨rfl, hb3, hB3, hK3⟩
      have HB3 := Lib.hid hb3
      have HK3 := Lib.hid hK3
      clear hb3 hK3
      go_wp2_with fail
      go_end0
      exact ⟨rfl, by rw [HTX.out]; exact HB3.out, (HBE.out.mono hBw).trans hB3, (KeepT.below HBE.out).trans HK3.out⟩

def Tm.str (t : Tm) : ByteArray := if t.validB then ⟨t.text.toArray⟩ else ⟨#[]⟩

set_option maxRecDepth 100000 in
set_option maxHeartbeats 2000000 in
theorem string_any (t : Tm) (c0 c1 c2 c3 : Value) (w : World) (ht : IsTm w.heap.size w c0 c1 c2 c3 t) (hdep : t.depth < 4611686018427387900) (hlen : t.validB = true → t.text.length ≤ 140737488355328)
    (hgB : 0 < w.heap.size) (htab : Lib.TabIs Tryz.prog w "internal/strconv.uint64pow10" .u64 Lib.pow10Tab) :
    Calls Tryz.prog 6 #[.agg #[c0, c1, c2, c3]] w fun e w' => e = .returned (.string t.str) ∧ Below w.heap.size w w' := by
  have hs : t.str = if t.validB then ⟨t.text.toArray⟩ else ⟨#[]⟩ := rfl
  have HS := Lib.hid hs; clear hs
  have hBe : Below w.heap.size w (w.alloc (.cells #[c0, c1, c2, c3] 24)) := (Below.refl _ w).alloc (Nat.le_refl _) _
  have HX := Lib.hid (World.alloc_heap_new w (.cells #[c0, c1, c2, c3] 24))
  have HV := Lib.hid (valid_any t c0 c1 c2 c3 _ ((ht.below hBe).mono hBe.size) hdep)
  have HBE := Lib.hid hBe; clear hBe
  have HT := Lib.hid ht; clear ht
  have HTAB := Lib.hid htab; clear htab
  go_enter Tryz.func6, Tryz.ntmps6
  go_wp2_with (go_at_call 7; refine HV.out.mono ?_)
  clear HV
  rintro e w1 ⟨rfl, hB1⟩
  simp only [World.size_alloc] at hB1
  have hz1 := hB1.size
  simp only [World.size_alloc] at hz1
  have hx1 := (hB1.block _ (by omega)).trans HX.out
  have hBw1 : Below w.heap.size w w1 := HBE.out.trans (hB1.mono (by omega))
  cases hv : t.validB
  · have HVV := Lib.hid hv
    go_wp2
    go_ret
    exact ⟨by rw [HS.out, HVV.out]; rfl, hBw1⟩
  · have HVV := Lib.hid hv
    have hlt : w.heap.size < w1.heap.size := by omega
    have x0 := cells_at hx1 0 _ rfl
    have x1 := cells_at hx1 1 _ rfl
    have x2 := cells_at hx1 2 _ rfl
    have x3 := cells_at hx1 3 _ rfl
    have hfb := Lib.fresh_isBuilder 41 5 w1
    have hBe2 : Below w1.heap.size w1 (w1.alloc (.cells #[.pointer none, .slice none 0 0] 41)) := (Below.refl _ w1).alloc (Nat.le_refl _) _
    have hBw2 : Below w.heap.size w (w1.alloc (.cells #[.pointer none, .slice none 0 0] 41)) := hBw1.trans (hBe2.mono (by omega))
    have HW := Lib.hid (write_any t w1.heap.size w1.heap.size [] c0 c1 c2 c3 _ ((HT.out.below hBw2).mono (by omega)) hfb (by have := hlen HVV.out; simpa using this) hBe2.size (by omega) (tab_below hBw2 hgB HTAB.out))
    have HBW2 := Lib.hid hBw2
    have HB1 := Lib.hid hBw1
    clear hfb hBe2 hBw2 hx1 hB1 hBw1 hlen
    go_wp2_with (go_at_call 20; refine HW.out.mono ?_)
    clear HW
    rintro e w3 ⟨rfl, hb3, hB3, hK3⟩
    have hz3 := hB3.size
    simp only [World.size_alloc] at hz3
    have HST := Lib.hid (Tryz.Builder_String_any w1.heap.size w1.heap.size t.text w3 (by simpa using hb3) (by omega))
    have HB3 := Lib.hid hB3
    clear hb3 hK3 hB3
    go_wp2_with (go_at_call 21; refine HST.out.mono ?_)
    rintro e w4 ⟨rfl, hB4⟩
    have HB4 := Lib.hid hB4
    clear hB4
    go_wp2_with fail
    go_ret
    exact ⟨by rw [HS.out, HVV.out]; rfl, (HBW2.out.trans (HB3.out.mono (by omega))).trans (HB4.out.mono (by omega))⟩
end Go.Proofs.YtikofhldihimaaaGreatDoor
