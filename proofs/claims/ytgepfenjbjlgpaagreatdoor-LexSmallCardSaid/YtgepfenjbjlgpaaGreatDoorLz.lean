/- The laws of lex: the chapter's examples, run. -/
import Derived.Test.YtgepfenjbjlgpaaGreatDoorLy
namespace Go.Proofs.YtgepfenjbjlgpaaGreatDoor
open Go.RowKit

theorem map_at {α β : Type} {f : α → β} {l : List α} {r : List β} (h : l.map f = r) {i : Nat} {x : α} (hx : l[i]? = some x) : r[i]? = some (f x) := by
  rw [← h, List.getElem?_map, hx]; rfl

theorem ex_two {s : ByteArray} {a : Nat} {e : Int} (hs : s.size ≤ 32768) (h : ∃ x, lexErr s = some x ∧ x.a = a ∧ x.e = e) (w : World) (hE : ErrOk w) :
    Calls Tryz.prog 9 #[.string s] w fun e' w' => e' = .returned (.tuple #[.slice none 0 0, .int .i64 (a : Int), .int .i64 e]) ∧ Below w.heap.size w w' := by
  obtain ⟨x, hx, rfl, rfl⟩ := h
  exact lex_err s w hs hE x hx

set_option maxRecDepth 100000 in
set_option maxHeartbeats 4000000 in
theorem lexAwake_any (w : World) (hE : ErrOk w) :
    Calls Tryz.prog 6 #[] w fun e w' => e = .returned (.bool true) ∧ Below w.heap.size w w' := by
  have HE := Lib.hid hE
  clear hE
  have HL1 := Lib.hid (lex_ok ex1 w (by decide +kernel) HE.out ex1_none)
  go_enter Tryz.func6, Tryz.ntmps6
  go_wp2_with fail
  refine HL1.out.mono ?_
  clear HL1
  rintro e W1 ⟨v, rfl, hV, hB1⟩
  obtain ⟨p, cap, rfl, hc⟩ := hV
  obtain ⟨b, off, rfl, hb, hcell⟩ := hc (by intro h; have := ex1_len; rw [h] at this; cases this)
  have hV1 : IsToks W1.heap.size W1 (.slice (some ⟨b, off, none⟩) (lexAll ex1).length cap) (lexAll ex1) := ⟨_, _, rfl, fun _ => ⟨b, off, rfl, hb, hcell⟩⟩
  rw [ex1_len] at hV1 ⊢
  have HV1 := Lib.hid hV1
  have HC := Lib.hid hcell
  have HB1 := Lib.hid hB1
  clear hV1 hc hcell hB1
  go_wp2_with fail
  obtain ⟨W2, hW2⟩ : ∃ W2, W1.alloc (.cells #[.int .i64 0, .int .i64 1, .int .i64 2, .int .i64 3, .int .i64 5, .int .i64 8, .int .i64 9, .int .i64 10, .int .i64 11, .int .i64 13, .int .i64 14, .int .i64 15, .int .i64 17, .int .i64 21, .int .i64 22] 3) = W2 := ⟨_, rfl⟩
  have hb12 : Below W1.heap.size W1 W2 := by rw [← hW2]; exact (Below.refl _ _).alloc (Nat.le_refl _) _
  have hoff : W2.heap[W1.heap.size]? = some (.cells #[.int .i64 0, .int .i64 1, .int .i64 2, .int .i64 3, .int .i64 5, .int .i64 8, .int .i64 9, .int .i64 10, .int .i64 11, .int .i64 13, .int .i64 14, .int .i64 15, .int .i64 17, .int .i64 21, .int .i64 22] 3 (0, 0)) := by rw [← hW2]; exact World.alloc_heap_new _ _
  have hz2 : W2.heap.size = W1.heap.size + 1 := by rw [← hW2]; simp
  rw [hW2]
  clear hW2
  have HJ := Lib.hid (join_any (lexAll ex1) _ W2 (((show IsToks W1.heap.size W1 (.slice (some ⟨b, off, none⟩) (lexAll ex1).length cap) (lexAll ex1) from by rw [ex1_len]; exact HV1.out).below hb12).mono hb12.size) (by rw [ex1_len]; omega) (by rw [ex1_join]; decide))
  rw [ex1_len] at HJ
  refine HJ.out.mono ?_
  clear HJ
  rintro e W3 ⟨rfl, hB3⟩
  have hj : joinB (lexAll ex1) = ⟨#[112, 32, 40, 32, 88, 32, 41, 32, 58, 45, 32, 113, 32, 40, 32, 49, 32, 46, 46, 32, 110, 32, 41, 32, 44, 32, 110, 111, 116, 32, 114, 32, 46]⟩ := by unfold joinB; rw [ex1_join]; rfl
  rw [hj]
  have HC3 : Hid (∀ (i : Nat) (x : Tk), (lexAll ex1)[i]? = some x → W3.cell? ⟨b, off + i * 3, none⟩ = some (.int .u8 x.k) ∧ W3.cell? ⟨b, off + i * 3 + 2, none⟩ = some (.int .i64 x.a)) := Lib.hid (fun i x hx => by
    obtain ⟨k0, k1, k2⟩ := HC.out i x hx
    have hbb := hb12.trans (hB3.mono (by omega))
    exact ⟨(hbb.cell (p := ⟨b, off + i * 3, none⟩) hb).trans k0, (hbb.cell (p := ⟨b, off + i * 3 + 2, none⟩) hb).trans k2⟩)
  have hoff3 := (hB3.block W1.heap.size (by omega)).trans hoff
  have HO := Lib.hid hoff3
  have hBw := HB1.out.trans ((hb12.trans (hB3.mono (by omega))).mono HB1.out.size)
  have HBW := Lib.hid hBw
  obtain ⟨O, hO⟩ : ∃ O, W1.heap.size = O := ⟨_, rfl⟩
  rw [hO] at HO ⊢
  clear hj hoff hoff3 hB3 hb12 hBw hz2 HV1 HC HB1 hO
  go_wp2_with fail
  go_loopw [5] (fun i wr => ∃ k : Nat, k ≤ 15 ∧ i = .int .i64 k ∧ Below W3.heap.size W3 wr) (fun i _ => 15 - (intOf i).toNat)
  case atStart => exact ⟨0, by omega, rfl, Below.refl _ _⟩
  case round =>
    obtain ⟨k, hk, rfl, hb3⟩ := hrel
    by_cases hlt : k < 15
    · obtain ⟨x, hx⟩ : ∃ x, (lexAll ex1)[k]? = some x := ⟨(lexAll ex1)[k]'(by rw [ex1_len]; exact hlt), List.getElem?_eq_getElem _⟩
      have hbl : b < W3.heap.size := by
        have := (HC3.out k x hx).1
        apply Decidable.byContradiction; intro hn
        have h2 : W3.heap[b]? = none := Array.getElem?_eq_none (by omega)
        simp [World.cell?, h2] at this
      have g2 := (hb3.cell (p := ⟨b, off + k * 3 + 2, none⟩) hbl).trans (HC3.out k x hx).2
      have ho : wr.cell? ⟨O, k, none⟩ = some (.int .i64 x.a) := by
        have hOl : O < W3.heap.size := (Array.getElem?_eq_some_iff.1 HO.out).1
        refine (hb3.cell (p := ⟨O, k, none⟩) hOl).trans (cells_at HO.out k _ ?_)
        have h3 := map_at (f := fun x : Tk => Value.int .i64 x.a) (l := lexAll ex1) (r := [.int .i64 0, .int .i64 1, .int .i64 2, .int .i64 3, .int .i64 5, .int .i64 8, .int .i64 9, .int .i64 10, .int .i64 11, .int .i64 13, .int .i64 14, .int .i64 15, .int .i64 17, .int .i64 21, .int .i64 22]) (by
          have : (lexAll ex1).map (fun x : Tk => Value.int .i64 x.a) = ((lexAll ex1).map (·.a)).map (fun n : Nat => Value.int .i64 n) := by rw [List.map_map]; rfl
          rw [this, ex1_at]; rfl) hx
        rw [← Array.getElem?_toList]; exact h3
      have i1 : (0 : Int) ≤ (k : Int) := by omega
      have i2 : (k : Int) < 15 := by omega
      have hneq : ((x.a : Int) != (x.a : Int)) = false := by simp
      have HB3 := Lib.hid hb3
      have HX := Lib.hid hx
      clear hb3 hx hbl
      go_wp2_with fail
      go_quiet (fail)
      go_wp2_with fail
      go_roundw
      case rel =>
        have h := HB3.out
        exact ⟨k + 1, by omega, by go_num, ⟨h.os, h.tape, h.output, h.size, h.block⟩⟩
      case measure => simp [intOf]; omega
    · have HB3 := Lib.hid hb3
      clear hb3
      have E1 : ErrOk wr := HE.out.below (HBW.out.trans (HB3.out.mono HBW.out.size))
      obtain ⟨x2, hx2⟩ : ∃ x, (lexAll ex1)[2]? = some x := ⟨(lexAll ex1)[2]'(by rw [ex1_len]; decide), List.getElem?_eq_getElem _⟩
      obtain ⟨x12, hx12⟩ : ∃ x, (lexAll ex1)[12]? = some x := ⟨(lexAll ex1)[12]'(by rw [ex1_len]; decide), List.getElem?_eq_getElem _⟩
      have k2 : x2.k = 2 := by have := map_at ex1_kinds hx2; simpa using this.symm
      have k12 : x12.k = 4 := by have := map_at ex1_kinds hx12; simpa using this.symm
      have q2 := (HC3.out 2 x2 hx2).1
      have q12 := (HC3.out 12 x12 hx12).1
      rw [k2] at q2
      rw [k12] at q12
      have hbl : b < W3.heap.size := by
        apply Decidable.byContradiction; intro hn
        have h2 : W3.heap[b]? = none := Array.getElem?_eq_none (by omega)
        simp [World.cell?, h2] at q2
      have HQ2 := Lib.hid q2
      have HQ12 := Lib.hid q12
      have HE1 := Lib.hid E1
      clear q2 q12 k2 k12 hx2 hx12 E1
      go_wp2_with fail
      refine (ex_two (s := ex2) (by decide) ex2_err wr HE1.out).mono ?_
      rintro e W4 ⟨rfl, hb4⟩
      have HB4 := Lib.hid hb4
      clear hb4
      go_wp2_with fail
      refine (ex_two (s := ex3) (by decide) ex3_err W4 (HE1.out.below HB4.out)).mono ?_
      rintro e W5 ⟨rfl, hb5⟩
      have HB5 := Lib.hid (HB4.out.trans (hb5.mono HB4.out.size))
      clear hb5
      go_wp2_with fail
      refine (ex_two (s := ex4) (by decide) ex4_err W5 (HE1.out.below HB5.out)).mono ?_
      rintro e W6 ⟨rfl, hb6⟩
      have HB6 := Lib.hid (HB3.out.trans ((HB5.out.trans (hb6.mono HB5.out.size)).mono HB3.out.size))
      have q2 := (HB6.out.cell (p := ⟨b, off + 2 * 3, none⟩) hbl).trans HQ2.out
      have q12 := (HB6.out.cell (p := ⟨b, off + 12 * 3, none⟩) hbl).trans HQ12.out
      have q2' : W6.cell? ⟨b, off + 6, none⟩ = some (.int .u8 2) := q2
      have q12' : W6.cell? ⟨b, off + 36, none⟩ = some (.int .u8 4) := q12
      clear hb6 q2 q12
      go_wp2
      go_ret
      exact ⟨rfl, HBW.out.trans (HB6.out.mono HBW.out.size)⟩
end Go.Proofs.YtgepfenjbjlgpaaGreatDoor
