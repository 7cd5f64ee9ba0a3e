/- Package term, texts: write, writeFunction, writeOperands. -/
import Derived.Test.YtikofhldihimaaaGreatDoorEn
import Derived.WalkSmall
namespace Go.Proofs.YtikofhldihimaaaGreatDoor
open Go.RowKit

mutual
def Tm.text : Tm → List UInt8
  | .mk k n s us =>
    if k = 1 then Lib.itoa n
    else if k = 4 then s.data.toList ++ (Tm.textF 40 us ++ [41])
    else if k = 5 then Tm.textO (strengthI 5 s us.length) us.length s.data.toList 0 us
    else if k = 6 then Tm.textO (strengthI 6 s us.length) us.length [46, 46] 0 us
    else s.data.toList
def Tm.textF (sep : UInt8) : List Tm → List UInt8
  | [] => []
  | t :: ts => sep :: (Tm.text t ++ Tm.textF 44 ts)
def Tm.textO (o : Int) (len : Nat) (sign : List UInt8) (i : Nat) : List Tm → List UInt8
  | [] => []
  | t :: ts => (if i + 1 = len then sign else []) ++ ((if enclosedB o i t then 40 :: (Tm.text t ++ [41]) else Tm.text t) ++ Tm.textO o len sign (i + 1) ts)
end

abbrev Bld (B b : Nat) (acc : List UInt8) (w : World) : Prop := Lib.IsBuilder 41 5 B b (Lib.byteCells acc) w

theorem grown_of_below {w w' : World} (h : Below w.heap.size w w') : w.grownBy w' none := ⟨h.os, h.tape, h.output, h.size, fun k hk _ => h.block k hk⟩
theorem BuilderAt.below {B b : Nat} {p : Value} {bs : List Value} {w w' : World} (h : Lib.BuilderAt 41 5 B b p bs w) (hb : Below w.heap.size w w') : Lib.BuilderAt 41 5 B b p bs w' := by
  have hlt := h.lt
  obtain ⟨hB, v, hbk, hown, hne⟩ := h
  exact ⟨hB, v, (hb.block b hlt).trans hbk, hown.kept (row := some b) ⟨hb.os, hb.tape, hb.output, hb.size, fun k hk _ => hb.block k hk⟩ (Or.inr hne), hne⟩
theorem Bld.below {B b : Nat} {acc : List UInt8} {w w' : World} (h : Bld B b acc w) (hb : Below w.heap.size w w') : Bld B b acc w' := by
  rcases h with h | h
  · exact Or.inl (BuilderAt.below h hb)
  · exact Or.inr (BuilderAt.below h hb)
theorem KeepT.below {w w' : World} (hb : Below w.heap.size w w') : KeepT w w' := fun k _ _ _ _ _ h => (hb.block k (Array.getElem?_eq_some_iff.1 h).1).trans h

theorem byteCells_append (a b : List UInt8) : Lib.byteCells (a ++ b) = Lib.byteCells a ++ Lib.byteCells b := by simp [Lib.byteCells]

/-- WriteString, said of bytes. -/
theorem put_any (B b : Nat) (acc : List UInt8) (s : ByteArray) (w : World) (h : Bld B b acc w) (hlen : acc.length + s.size ≤ 140737488355328) (hBw : B ≤ w.heap.size) :
    Calls Tryz.prog 28 #[.pointer (some ⟨b, 0, none⟩), .string s] w fun e w' => e = .returned (.tuple #[.int .i64 s.size, .nilIface]) ∧ Bld B b (acc ++ s.data.toList) w' ∧ Below B w w' ∧ KeepT w w' :=
  (writeString_any B b _ s w h (by simpa [Lib.byteCells_length] using hlen) hBw).mono fun e w' ⟨h1, h2, h3, h4⟩ => ⟨h1, by unfold Bld; rw [byteCells_append]; exact h2, h3, h4⟩

def WrAt (t : Tm) : Prop := ∀ (B b : Nat) (acc : List UInt8) (c0 c1 c2 c3 : Value) (w : World), IsTm B w c0 c1 c2 c3 t → Bld B b acc w → acc.length + t.text.length ≤ 140737488355328 → B ≤ w.heap.size →
  0 < B → Lib.TabIs Tryz.prog w "internal/strconv.uint64pow10" .u64 Lib.pow10Tab →
  Calls Tryz.prog 20 #[.pointer (some ⟨b, 0, none⟩), .agg #[c0, c1, c2, c3]] w fun e w' => e = .returned (.tuple #[]) ∧ Bld B b (acc ++ t.text) w' ∧ Below B w w' ∧ KeepT w w'

theorem tab_below {B : Nat} {w w' : World} (h : Below B w w') (hB : 0 < B) (ht : Lib.TabIs Tryz.prog w "internal/strconv.uint64pow10" .u64 Lib.pow10Tab) : Lib.TabIs Tryz.prog w' "internal/strconv.uint64pow10" .u64 Lib.pow10Tab :=
  var?_below h (by kernel_rfl) hB ht

set_option maxRecDepth 100000 in
set_option maxHeartbeats 2000000 in
theorem writeFunction_any (k n : Int) (s : ByteArray) (us : List Tm) (ih : ∀ t ∈ us, WrAt t) (B b : Nat) (bs : List UInt8) (c0 c1 c2 c3 : Value) (w : World) (ht : IsTm B w c0 c1 c2 c3 (.mk k n s us)) (hb : Bld B b bs w)
    (hlen : bs.length + (s.data.toList ++ (Tm.textF 40 us ++ [41])).length ≤ 140737488355328) (hBw : B ≤ w.heap.size) (hgB : 0 < B) (htab : Lib.TabIs Tryz.prog w "internal/strconv.uint64pow10" .u64 Lib.pow10Tab) :
    Calls Tryz.prog 30 #[.pointer (some ⟨b, 0, none⟩), .agg #[c0, c1, c2, c3]] w fun e w' => e = .returned (.tuple #[]) ∧ Bld B b (bs ++ (s.data.toList ++ (Tm.textF 40 us ++ [41]))) w' ∧ Below B w w' ∧ KeepT w w' := by
  simp only [IsTm] at ht
  obtain ⟨rfl, hk, rfl, hnn, rfl, hs, a, cap, rfl, hl, hargs⟩ := ht
  have HA := Lib.hid hargs; clear hargs
  have IH := Lib.hid ih; clear ih
  have HT := Lib.hid htab; clear htab
  have HL := Lib.hid hlen; clear hlen
  have HM := Lib.hid hl
  unfold maxLen at hl
  have hx := World.alloc_heap_new w (.cells #[.int .u8 k, .int .i64 n, .string s, .slice a us.length cap] 24)
  have hBe : Below w.heap.size w (w.alloc (.cells #[.int .u8 k, .int .i64 n, .string s, .slice a us.length cap] 24)) := (Below.refl _ w).alloc (Nat.le_refl _) _
  have hp := put_any B b bs s _ (hb.below hBe) (by have := HL.out; simp only [List.length_append] at this; simp at this ⊢; omega) (by have := hBe.size; omega)
  have HP := Lib.hid hp
  have HX := Lib.hid hx
  clear hp hx
  go_enter Tryz.func30, Tryz.ntmps30
  go_wp2_with (go_at_call 28; refine HP.out.mono ?_)
  clear HP
  rintro e w1 ⟨rfl, hb1, hB1, hK1⟩
  have hBw1 : Below B w w1 := (hBe.mono hBw).trans hB1
  have hKw1 : KeepT w w1 := (KeepT.below hBe).trans hK1
  have hx1 := hK1 _ _ _ _ (by decide) (by decide) HX.out
  have x3 := cells_at hx1 3 _ rfl
  clear HX hb
  have HB1 := Lib.hid hb1; clear hb1
  have HK1 := Lib.hid hKw1; clear hKw1
  clear hK1 hB1 hBe hx1
  go_wp2_with fail
  go_loopw [4, 6, 14] (fun sp _ i wr => ∃ (j : Nat) (sep : UInt8) (acc : List UInt8), j ≤ us.length ∧ i = .int .i64 j ∧ sp = .string ⟨#[sep]⟩ ∧ Hid (acc ++ Tm.textF sep (us.drop j) = bs ++ (s.data.toList ++ Tm.textF 40 us)) ∧
      Hid (Bld B b acc wr) ∧ Below B w wr ∧ Hid (KeepT w wr)) (fun _ _ i _ => us.length - (intOf i).toNat)
  case atStart => exact ⟨0, 40, bs ++ s.data.toList, Nat.zero_le _, rfl, rfl, by show _ = _; simp, HB1, hBw1, HK1⟩
  case round =>
    obtain ⟨j, sep, acc, hj, rfl, rfl, HE, HB, hBr, HK⟩ := hrel
    have hsz := hBr.size
    have HTr := Lib.hid (tab_below hBr hgB HT.out)
    by_cases hlt : j < us.length
    · obtain ⟨b1, off, rfl, hb1, hI1⟩ := HA.out (by intro e; rw [e] at hlt; simp at hlt)
      obtain ⟨d0, d1, d2, d3, e0, e1, e2, e3, hc4⟩ := hI1.at j hlt
      have g0 := (hBr.cell (p := ⟨b1, off + j * 4, none⟩) hb1).trans e0
      have g1 := (hBr.cell (p := ⟨b1, off + j * 4 + 1, none⟩) hb1).trans e1
      have g2 := (hBr.cell (p := ⟨b1, off + j * 4 + 2, none⟩) hb1).trans e2
      have g3 := (hBr.cell (p := ⟨b1, off + j * 4 + 3, none⟩) hb1).trans e3
      have hd1 := hc4.below hBr
      obtain ⟨k', n', s', us', hq⟩ : ∃ k' n' s' us', us[j] = .mk k' n' s' us' := by cases us[j]; exact ⟨_, _, _, _, rfl⟩
      have hda : us.drop j = us[j] :: us.drop (j + 1) := List.drop_eq_getElem_cons hlt
      have HDA := Lib.hid hda; clear hda
      rw [hq] at hc4
      simp only [IsTm] at hc4
      obtain ⟨rfl, _, rfl, _, rfl, _, a', cap', rfl, _, _⟩ := hc4
      have HD1 := Lib.hid hd1
      clear e0 e1 e2 e3 hd1 hq
      have hlt1 : b1 < wr.heap.size := by omega
      have HLE := Lib.hid (show acc.length + (1 + us[j].text.length + 1) ≤ 140737488355328 by
        have h1 := congrArg List.length HE.out
        have h2 := HL.out
        rw [HDA.out] at h1
        simp only [Tm.textF, List.length_append, List.length_cons, List.length_nil] at h1 h2
        omega)
      have hBa : Below wr.heap.size wr (wr.alloc (.cells #[.int .u8 k', .int .i64 n', .string s', .slice a' us'.length cap'] 24)) := (Below.refl _ wr).alloc (Nat.le_refl _) _
      have HP := Lib.hid (put_any B b acc ⟨#[sep]⟩ _ (HB.out.below hBa) (by have := HLE.out; show acc.length + 1 ≤ _; omega) (by simp; omega))
      have HX := Lib.hid (World.alloc_heap_new wr (.cells #[.int .u8 k', .int .i64 n', .string s', .slice a' us'.length cap'] 24))
      have HBA := Lib.hid hBa; clear hBa
      go_wp2_with (go_at_call 28; refine HP.out.mono ?_)
      clear HP
      rintro e w2 rfl hb2 hB2 hK2
      have hx2 := hK2 _ _ _ _ (by decide) (by decide) HX.out
      have x0 := cells_at hx2 0 _ rfl
      have x1 := cells_at hx2 1 _ rfl
      have x2 := cells_at hx2 2 _ rfl
      have x3' := cells_at hx2 3 _ rfl
      have hBr2 : Below B wr w2 := (HBA.out.mono (by omega)).trans hB2
      have hK02 := Lib.hid (HK.out.trans ((KeepT.below HBA.out).trans hK2))
      have HW := Lib.hid (IH.out _ (List.getElem_mem hlt) B b _ _ _ _ _ _ (HD1.out.below hBr2) hb2 (by have := HLE.out; simp only [List.length_append, List.length_cons, List.length_nil]; omega) (by have := hBr2.size; omega) hgB (tab_below hBr2 hgB HTr.out))
      clear hb2 hB2 hK2 hx2
      go_wp2_with (go_at_call 20; refine HW.out.mono ?_)
      clear HW
      rintro e w3 ⟨rfl, hb3, hB3, hK3⟩
      have HB3 := Lib.hid hb3; clear hb3
      have HK3 := Lib.hid hK3; clear hK3
      go_wp2_with fail
      go_roundw
      case rel =>
        refine ⟨j + 1, 44, _, by omega, by go_num, rfl, ?_, HB3, (hBr.trans hBr2).trans hB3, hK02.out.trans HK3.out⟩
        show _ = _
        rw [← HE.out, HDA.out]
        simp only [Tm.textF, List.append_assoc]; rfl
      case measure => simp [intOf]; omega
    · have hda : us.drop j = [] := List.drop_eq_nil_of_le (by omega)
      have hacc : acc = bs ++ (s.data.toList ++ Tm.textF 40 us) := by have := HE.out; rw [hda] at this; simpa [Tm.textF] using this
      have HACC := Lib.hid hacc
      have HP := Lib.hid (put_any B b acc ⟨#[41]⟩ _ HB.out (by have := HL.out; rw [HACC.out]; simp only [List.length_append, List.length_cons, List.length_nil] at this ⊢; show _ + 1 ≤ _; omega) (by omega))
      clear hacc hda
      go_wp2_with (go_at_call 28; refine HP.out.mono ?_)
      clear HP
      rintro e w2 rfl hb2 hB2 hK2
      have HB2 := Lib.hid hb2; clear hb2
      have HK2 := Lib.hid hK2; clear hK2
      go_wp2_with fail
      go_end0
      refine ⟨rfl, ?_, hBr.trans hB2, HK.out.trans HK2.out⟩
      have := HB2.out
      rw [HACC.out] at this
      simpa only [List.append_assoc] using this
end Go.Proofs.YtikofhldihimaaaGreatDoor
