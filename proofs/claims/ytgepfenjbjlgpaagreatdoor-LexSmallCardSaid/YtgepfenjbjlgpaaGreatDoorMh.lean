/- The closed law of lex: its walk. -/
import Derived.Test.YtgepfenjbjlgpaaGreatDoorMe
import Derived.Test.YtgepfenjbjlgpaaGreatDoorMi
import Derived.Test.YtgepfenjbjlgpaaGreatDoorRp
namespace Go.Proofs.YtgepfenjbjlgpaaGreatDoor
open Go.RowKit

def wordsL : List ByteArray := [⟨#[35, 99, 111, 110, 115, 116]⟩, ⟨#[35, 115, 104, 111, 119]⟩, ⟨#[35, 109, 105, 110, 105, 109, 105, 122, 101]⟩, ⟨#[35, 99, 111, 117, 110, 116]⟩, ⟨#[35, 115, 117, 109]⟩, ⟨#[35]⟩, ⟨#[35, 115, 117, 109, 115]⟩, ⟨#[35, 115, 117]⟩, ⟨#[35, 115, 117, 109, 49]⟩, ⟨#[35, 95]⟩, ⟨#[110, 111, 116]⟩, ⟨#[110, 111, 116, 49]⟩, ⟨#[110, 79, 116]⟩, ⟨#[50, 49, 52, 55, 52, 56, 51, 54, 52, 55]⟩, ⟨#[50, 49, 52, 55, 52, 56, 51, 54, 52, 56]⟩, ⟨#[57, 57, 57, 57, 57, 57, 57, 57, 57, 57, 57, 57, 57, 57, 57, 57, 57, 57, 57, 57]⟩, ⟨#[48]⟩, ⟨#[48, 48]⟩, ⟨#[48, 49]⟩, ⟨#[49, 48]⟩, ⟨#[49, 97]⟩, ⟨#[92, 92]⟩, ⟨#[33]⟩, ⟨#[33, 32, 61]⟩, ⟨#[33, 61]⟩, ⟨#[60, 62]⟩, ⟨#[61, 60]⟩, ⟨#[58, 45, 45]⟩, ⟨#[46, 46, 46]⟩, ⟨#[46, 46, 46, 46]⟩, ⟨#[37]⟩, ⟨#[37, 97]⟩, ⟨#[37, 97, 10, 98]⟩, ⟨#[97, 37, 98, 13, 10, 99]⟩, ⟨#[124]⟩, ⟨#[64]⟩, ⟨#[91, 93, 40, 41, 123, 125]⟩]
theorem wordsL_le : ∀ x ∈ wordsL, x.size ≤ 40 := by
  intro x hx
  unfold wordsL at hx
  simp only [List.mem_cons, List.mem_nil_iff, or_false] at hx
  rcases hx with rfl | rfl | rfl | rfl | rfl | rfl | rfl | rfl | rfl | rfl | rfl | rfl | rfl | rfl | rfl | rfl | rfl | rfl | rfl | rfl | rfl | rfl | rfl | rfl | rfl | rfl | rfl | rfl | rfl | rfl | rfl | rfl | rfl | rfl | rfl | rfl | rfl <;> decide
theorem wanted_false {o : Oper} {y : Nat → Option Bool} {k : Nat} (hg : o.guard = some (k, false)) (hy : y k = some false) : Region.wanted o y = true := by
  unfold Region.wanted
  rw [hg]
  simp [hy]

set_option maxRecDepth 100000 in
set_option maxHeartbeats 16000000 in
theorem small_any (w : World) (hE : ErrOk w) :
    Calls Tryz.prog 4 #[] w fun e w' => e = .returned (.bool true) ∧ Below w.heap.size w w' := by
  have HX : Hid (∀ s w', Below w.heap.size w w' → Calls Tryz.prog 7 #[.string s] w' fun e w'' => e = .returned (.bool true) ∧ Below w'.heap.size w' w'') := Lib.hid (fun s w' h => lexes_any s w' (hE.below h))
  have HA : Hid (∀ w', Below w.heap.size w w' → Calls Tryz.prog 6 #[] w' fun e w'' => e = .returned (.bool true) ∧ Below w'.heap.size w' w'') := Lib.hid (fun w' h => lexAwake_any w' (hE.below h))
  clear hE
  go_enter Tryz.func4, Tryz.ntmps4
  go_wp2_with fail
  go_loopw [1] (fun i wr => ∃ b : Nat, b ≤ 256 ∧ i = .int .i64 b ∧ Below w.heap.size w wr) (fun i _ => 256 - (intOf i).toNat)
  case atStart => exact ⟨0, by omega, rfl, Below.refl _ _⟩
  case round =>
    obtain ⟨b, hb, rfl, hB⟩ := hrel
    by_cases hlt : b < 256
    · have hd : decide ((b : Int) < 256) = true := by simp; omega
      have hu : IntKind.u8.wrap (b : Int) = b := IntWalk.u8_in _ (by omega)
      obtain ⟨W1, hW1⟩ : ∃ W1, wr.alloc (.cells #[.int .u8 b] 5) = W1 := ⟨_, rfl⟩
      have hc1 : W1.heap[wr.heap.size]? = some (.cells #[.int .u8 b] 5 (0, 0)) := by rw [← hW1]; exact World.alloc_heap_new _ _
      have hcv := run_convert_bytes_arg W1 24 5 Tryz.underlying24 Tryz.underlying5 wr.heap.size 0 1 1 [(b : Int)] rfl (fun i hi => by
        have h0 : i = 0 := by omega
        subst h0
        exact cells_at hc1 0 _ rfl) _ Tryz.underlying9
      have HB : Hid (Below w.heap.size w W1) := Lib.hid (by rw [← hW1]; exact hB.alloc hB.size _)
      have hsz : (strOfNums [(b : Int)]).size = 1 := strOfNums_size _
      generalize strOfNums [(b : Int)] = S at hcv hsz
      have z1 : ((⟨#[97]⟩ : ByteArray) ++ S).size = 2 := by rw [ByteArray.size_append, hsz]; rfl
      have z2 : ((⟨#[49]⟩ : ByteArray) ++ S).size = 2 := by rw [ByteArray.size_append, hsz]; rfl
      have z3 : ((⟨#[35]⟩ : ByteArray) ++ S).size = 2 := by rw [ByteArray.size_append, hsz]; rfl
      have z4 : ((⟨#[95]⟩ : ByteArray) ++ S).size = 2 := by rw [ByteArray.size_append, hsz]; rfl
      have z5 : ((⟨#[37]⟩ : ByteArray) ++ S).size = 2 := by rw [ByteArray.size_append, hsz]; rfl
      have z6 : (S ++ (⟨#[61]⟩ : ByteArray)).size = 2 := by rw [ByteArray.size_append, hsz]; rfl
      clear hB hc1
      as_aux_lemma =>
        go_wp2_with (first | (go_at_call 7; refine (HX.out _ _ HB.out).mono ?_; rintro e w2 ⟨rfl, hb2⟩; replace HB := Lib.hid (HB.out.trans (hb2.mono HB.out.size)); clear hb2))
        go_roundw
        case rel => exact ⟨b + 1, by omega, by go_num, HB.out⟩
        case measure => simp [intOf]; omega
    · have hd : decide ((b : Int) < 256) = false := by simp; omega
      have HB := Lib.hid hB
      clear hB
      go_wp2_with fail
      obtain ⟨X2, hX2⟩ : ∃ X, wr.heap.size = X := ⟨_, rfl⟩
      obtain ⟨W2, hW2⟩ : ∃ W, wr.alloc (.cells #[.string ⟨#[]⟩, .string ⟨#[58]⟩, .string ⟨#[46, 46]⟩, .string ⟨#[97, 46]⟩, .string ⟨#[60, 61]⟩, .string ⟨#[95]⟩, .string ⟨#[48]⟩, .string ⟨#[37, 32]⟩] 9) = W := ⟨_, rfl⟩
      have hc2 : W2.heap[X2]? = some (.cells #[.string ⟨#[]⟩, .string ⟨#[58]⟩, .string ⟨#[46, 46]⟩, .string ⟨#[97, 46]⟩, .string ⟨#[60, 61]⟩, .string ⟨#[95]⟩, .string ⟨#[48]⟩, .string ⟨#[37, 32]⟩] 9 (0, 0)) := by rw [← hW2, ← hX2]; exact World.alloc_heap_new _ _
      have hB2 : Below w.heap.size w W2 := by rw [← hW2]; exact HB.out.alloc HB.out.size _
      have HC2 := Lib.hid hc2
      have HB2 := Lib.hid hB2
      have HST : Hid (∀ q : Nat, q < 8 → ∀ W, Below W2.heap.size W2 W → ∃ x : ByteArray, x.size ≤ 2 ∧ W.cell? ⟨X2, q, none⟩ = some (.string x)) := Lib.hid (fun q hq W hW => by
        have hc := (hW.block X2 (Array.getElem?_eq_some_iff.1 HC2.out).1).trans HC2.out
        match q, hq with
        | 0, _ => exact ⟨_, by decide, cells_at hc 0 _ rfl⟩
        | 1, _ => exact ⟨_, by decide, cells_at hc 1 _ rfl⟩
        | 2, _ => exact ⟨_, by decide, cells_at hc 2 _ rfl⟩
        | 3, _ => exact ⟨_, by decide, cells_at hc 3 _ rfl⟩
        | 4, _ => exact ⟨_, by decide, cells_at hc 4 _ rfl⟩
        | 5, _ => exact ⟨_, by decide, cells_at hc 5 _ rfl⟩
        | 6, _ => exact ⟨_, by decide, cells_at hc 6 _ rfl⟩
        | 7, _ => exact ⟨_, by decide, cells_at hc 7 _ rfl⟩)
      clear hc2 hB2 HC2 HB
      first | rw [hW2] | skip
      rw [hX2] at *
      clear hX2
      obtain ⟨A, hA⟩ : ∃ A : ByteArray, A = ⟨#[58, 45, 126, 46, 44, 59, 61, 33, 60, 62, 95, 97, 90, 48, 32, 10]⟩ := ⟨_, rfl⟩
      rw [← hA]
      have hAs : A.size = 16 := by rw [hA]; rfl
      clear hA
      go_loopw [5] (fun i wr => ∃ q : Nat, q ≤ 4096 ∧ i = .int .i64 q ∧ Below W2.heap.size W2 wr) (fun i _ => 4096 - (intOf i).toNat)
      case atStart => exact ⟨0, by omega, rfl, Below.refl _ _⟩
      case round =>
        obtain ⟨q, hq, rfl, hB⟩ := hrel
        by_cases hlq : q < 4096
        · have hd2 : decide ((q : Int) < 4096) = true := by simp; omega
          obtain ⟨x, hxs, hx⟩ := HST.out (q % 8) (by omega) wr hB
          have HB : Hid (Below w.heap.size w wr) := Lib.hid (HB2.out.trans (hB.mono HB2.out.size))
          have HBW := Lib.hid hB
          clear hB
          go_wp2_with fail
          clear hx
          go_loop [6, 7, 8] (fun s m k => ∃ (c mm : Nat) (y : ByteArray), c ≤ 3 ∧ k = .int .i64 c ∧ m = .int .i64 mm ∧ mm ≤ 4096 ∧ s = .string y ∧ y.size ≤ 2 + c) (fun _ _ k => 3 - (intOf k).toNat)
          case atStart => exact ⟨0, q, x, by omega, rfl, rfl, hq, rfl, by omega⟩
          case round =>
            obtain ⟨c, mm, y, hc, rfl, rfl, hmm, rfl, hy⟩ := hrel
            by_cases hlc : c < 3
            · have hd3 : decide ((c : Int) < 3) = true := by simp; omega
              have hxe : (A.extract (mm % 16) (mm % 16 + 1)).size = 1 := by rw [ByteArray.size_extract]; omega
              go_wp2_with fail
              go_round
              case rel => exact ⟨c + 1, mm / 16, _, by omega, by go_num, by go_num, by omega, rfl, by rw [ByteArray.size_append, hxe]; omega⟩
              case measure => simp [intOf]; omega
            · have hd3 : decide ((c : Int) < 3) = false := by simp; omega
              go_wp2_with (first | (go_at_call 7; refine (HX.out _ _ HB.out).mono ?_; rintro e w2 ⟨rfl, hb2⟩; replace HB := Lib.hid (HB.out.trans (hb2.mono HB.out.size)); replace HBW := Lib.hid (HBW.out.trans (hb2.mono HBW.out.size)); clear hb2))
              go_roundw
              case rel => exact ⟨q + 1, by omega, by go_num, HBW.out⟩
              case measure => simp [intOf]; omega
        · have hd2 : decide ((q : Int) < 4096) = false := by simp; omega
          have HB : Hid (Below w.heap.size w wr) := Lib.hid (HB2.out.trans (hB.mono HB2.out.size))
          clear hB HB2 HST
          go_wp2_with fail
          obtain ⟨W3, hW3⟩ : ∃ W, wr.alloc (.cells #[.string ⟨#[35, 99, 111, 110, 115, 116]⟩, .string ⟨#[35, 115, 104, 111, 119]⟩, .string ⟨#[35, 109, 105, 110, 105, 109, 105, 122, 101]⟩, .string ⟨#[35, 99, 111, 117, 110, 116]⟩, .string ⟨#[35, 115, 117, 109]⟩, .string ⟨#[35]⟩, .string ⟨#[35, 115, 117, 109, 115]⟩, .string ⟨#[35, 115, 117]⟩, .string ⟨#[35, 115, 117, 109, 49]⟩, .string ⟨#[35, 95]⟩, .string ⟨#[110, 111, 116]⟩, .string ⟨#[110, 111, 116, 49]⟩, .string ⟨#[110, 79, 116]⟩, .string ⟨#[50, 49, 52, 55, 52, 56, 51, 54, 52, 55]⟩, .string ⟨#[50, 49, 52, 55, 52, 56, 51, 54, 52, 56]⟩, .string ⟨#[57, 57, 57, 57, 57, 57, 57, 57, 57, 57, 57, 57, 57, 57, 57, 57, 57, 57, 57, 57]⟩, .string ⟨#[48]⟩, .string ⟨#[48, 48]⟩, .string ⟨#[48, 49]⟩, .string ⟨#[49, 48]⟩, .string ⟨#[49, 97]⟩, .string ⟨#[92, 92]⟩, .string ⟨#[33]⟩, .string ⟨#[33, 32, 61]⟩, .string ⟨#[33, 61]⟩, .string ⟨#[60, 62]⟩, .string ⟨#[61, 60]⟩, .string ⟨#[58, 45, 45]⟩, .string ⟨#[46, 46, 46]⟩, .string ⟨#[46, 46, 46, 46]⟩, .string ⟨#[37]⟩, .string ⟨#[37, 97]⟩, .string ⟨#[37, 97, 10, 98]⟩, .string ⟨#[97, 37, 98, 13, 10, 99]⟩, .string ⟨#[124]⟩, .string ⟨#[64]⟩, .string ⟨#[91, 93, 40, 41, 123, 125]⟩] 9) = W := ⟨_, rfl⟩
          rw [hW3]
          obtain ⟨X3, hX3⟩ : ∃ X, wr.heap.size = X := ⟨_, rfl⟩
          have hrow3 : W3.ownsRow X3 9 1 (.slice (some ⟨X3, 0, none⟩) 37 37) 37 ((wordsL).map Value.string) := by
            have h := World.ownsRow_lit (base := wr.heap.size) (e := 9) (size := 1) wr #[.string ⟨#[35, 99, 111, 110, 115, 116]⟩, .string ⟨#[35, 115, 104, 111, 119]⟩, .string ⟨#[35, 109, 105, 110, 105, 109, 105, 122, 101]⟩, .string ⟨#[35, 99, 111, 117, 110, 116]⟩, .string ⟨#[35, 115, 117, 109]⟩, .string ⟨#[35]⟩, .string ⟨#[35, 115, 117, 109, 115]⟩, .string ⟨#[35, 115, 117]⟩, .string ⟨#[35, 115, 117, 109, 49]⟩, .string ⟨#[35, 95]⟩, .string ⟨#[110, 111, 116]⟩, .string ⟨#[110, 111, 116, 49]⟩, .string ⟨#[110, 79, 116]⟩, .string ⟨#[50, 49, 52, 55, 52, 56, 51, 54, 52, 55]⟩, .string ⟨#[50, 49, 52, 55, 52, 56, 51, 54, 52, 56]⟩, .string ⟨#[57, 57, 57, 57, 57, 57, 57, 57, 57, 57, 57, 57, 57, 57, 57, 57, 57, 57, 57, 57]⟩, .string ⟨#[48]⟩, .string ⟨#[48, 48]⟩, .string ⟨#[48, 49]⟩, .string ⟨#[49, 48]⟩, .string ⟨#[49, 97]⟩, .string ⟨#[92, 92]⟩, .string ⟨#[33]⟩, .string ⟨#[33, 32, 61]⟩, .string ⟨#[33, 61]⟩, .string ⟨#[60, 62]⟩, .string ⟨#[61, 60]⟩, .string ⟨#[58, 45, 45]⟩, .string ⟨#[46, 46, 46]⟩, .string ⟨#[46, 46, 46, 46]⟩, .string ⟨#[37]⟩, .string ⟨#[37, 97]⟩, .string ⟨#[37, 97, 10, 98]⟩, .string ⟨#[97, 37, 98, 13, 10, 99]⟩, .string ⟨#[124]⟩, .string ⟨#[64]⟩, .string ⟨#[91, 93, 40, 41, 123, 125]⟩] 37 (Nat.le_refl _) (by unfold maxLen; decide) rfl
            rw [hW3, hX3] at h
            exact h
          have hB3 : Below w.heap.size w W3 := by rw [← hW3]; exact HB.out.alloc HB.out.size _
          have hX3w : w.heap.size ≤ X3 := by rw [← hX3]; exact HB.out.size
          have hX3s : X3 ≤ W3.heap.size := by rw [← hW3, ← hX3]; simp
          rw [hX3]
          clear hW3 HB hX3
          go_loopw [9, 10] (fun o i wr => ∃ (m : Nat) (xs : List ByteArray) (v : Value), 30 ≤ m ∧ 37 ≤ xs.length ∧ m ≤ 35 ∧ i = .int .i64 m ∧ v = o ∧ xs.length ≤ 37 + 3 * (m - 30) ∧ wr.ownsRow X3 9 1 v xs.length (xs.map Value.string) ∧ (∀ x ∈ xs, x.size ≤ 40) ∧ Below w.heap.size w wr ∧ X3 ≤ wr.heap.size) (fun _ i _ => 35 - (intOf i).toNat)
          case atStart => exact ⟨30, wordsL, _, by omega, by decide, by omega, rfl, rfl, by decide, hrow3, wordsL_le, hB3, hX3s⟩
          case round =>
            obtain ⟨m, xs, v, hm0, hx37, hm1, rfl, rfl, hxl, hrow, hxs, hB, hXs⟩ := hrel
            have HR := Lib.hid hrow
            have HXS := Lib.hid hxs
            have HB := Lib.hid hB
            by_cases hlm : m < 35
            · have hdm : decide ((m : Int) < 35) = true := by simp; omega
              clear hrow hxs hB
              obtain ⟨W4, hmk, hrow4, hB4⟩ := make_zeros m (by omega) wr X3 hXs
              have hcv := conv_row hrow4 (by simp)
              have hsz := strOfNums_size (List.replicate m (0 : Int))
              rw [List.length_replicate] at hsz
              generalize strOfNums (List.replicate m (0 : Int)) = z at hcv hsz
              have HR4 := Lib.hid (own_growR HR.out hB4)
              have HB4 := Lib.hid (HB.out.trans (hB4.mono HB.out.size))
              have hX4 := Nat.le_trans hXs hB4.size
              clear hrow4 hB4 HR HB hrow3 hB3
              go_wp2_with fail
              clear hmk hcv
              go_loop [12, 13] (fun s k => ∃ (c : Nat) (y : ByteArray), c ≤ m ∧ k = .int .i64 c ∧ s = .string y ∧ y.size = c) (fun _ k => m - (intOf k).toNat)
              case atStart => exact ⟨0, _, Nat.zero_le _, rfl, rfl, rfl⟩
              case round =>
                obtain ⟨c, y, hc, rfl, rfl, hy⟩ := hrel
                by_cases hlc : c < m
                · have hdc : decide ((c : Int) < (z.size : Int)) = true := by simp; omega
                  go_wp2_with fail
                  go_round
                  case rel => exact ⟨c + 1, _, by omega, by go_num, rfl, by rw [ByteArray.size_append, hy]; rfl⟩
                  case measure => simp [intOf]; omega
                · have hdc : decide ((c : Int) < (z.size : Int)) = false := by simp; omega
                  obtain ⟨i0, hi⟩ := info_parts infoS
                  have HIF := Lib.hid hi
                  obtain ⟨W5, hW5⟩ : ∃ W, W4.alloc (.cells #[.string y, .string ((⟨#[90]⟩ : ByteArray) ++ y), .string ((⟨#[95]⟩ : ByteArray) ++ y)] 9) = W := ⟨_, rfl⟩
                  have hc5 : W5.heap[W4.heap.size]? = some (.cells #[.string y, .string ((⟨#[90]⟩ : ByteArray) ++ y), .string ((⟨#[95]⟩ : ByteArray) ++ y)] 9 (0, 0)) := by rw [← hW5]; exact World.alloc_heap_new _ _
                  have hB5 : Below W4.heap.size W4 W5 := by rw [← hW5]; exact (Below.refl _ _).alloc (Nat.le_refl _) _
                  have HR5 := Lib.hid (own_growR HR4.out hB5)
                  have HB5 := Lib.hid (HB4.out.trans (hB5.mono HB4.out.size))
                  have hX5 := Nat.le_trans hX4 hB5.size
                  have HC5 := Lib.hid hc5
                  clear hc5 hB5 hi HR4 HB4
                  have hyb : y.size ≤ 40 := by omega
                  have hz1 : ((⟨#[90]⟩ : ByteArray) ++ y).size ≤ 40 := by rw [ByteArray.size_append]; show 1 + _ ≤ _; omega
                  have hz2 : ((⟨#[95]⟩ : ByteArray) ++ y).size ≤ 40 := by rw [ByteArray.size_append]; show 1 + _ ≤ _; omega
                  have HZ := Lib.hid (And.intro hyb (And.intro hz1 hz2))
                  go_wp2_with (first | (at_builtin; go_loud (refine wpList_append_own _ rfl _ _ 25 rfl X3 9 i0 _ 1 16 Tryz.underlying25 HIF.out.1 HIF.out.2.1 HIF.out.2.2.1 HIF.out.2.2.2 rfl (by decide) _ _ _ rfl HR5.out ⟨_, 0, none⟩ 3 3 [.string y, .string ((⟨#[90]⟩ : ByteArray) ++ y), .string ((⟨#[95]⟩ : ByteArray) ++ y)] rfl rfl ?c1 ?c2 ?c3 ?c4 ?c5 ?_)))
                  case c1 =>
                    intro jj u hu
                    rcases jj with _ | _ | _ | jj
                    · cases hu; exact cells_at HC5.out 0 _ rfl
                    · cases hu; exact cells_at HC5.out 1 _ rfl
                    · cases hu; exact cells_at HC5.out 2 _ rfl
                    · simp at hu
                  case c2 => simp [Value.oneCell']
                  case c3 => unfold maxLen; omega
                  case c4 => omega
                  intro v6 w6 hO6 hg6 _
                  have hB6 : Below w.heap.size w w6 := HB5.out.grown hg6 (by omega) (fun k e => by have := (HR5.out.lt k e).1; omega)
                  have hX6 : X3 ≤ w6.heap.size := Nat.le_trans hX5 hg6.size
                  have HO6 : Hid (w6.ownsRow X3 9 1 v6 (xs ++ [y, (⟨#[90]⟩ : ByteArray) ++ y, (⟨#[95]⟩ : ByteArray) ++ y]).length ((xs ++ [y, (⟨#[90]⟩ : ByteArray) ++ y, (⟨#[95]⟩ : ByteArray) ++ y]).map Value.string)) := Lib.hid (by
                    rw [List.map_append, List.length_append]; exact hO6)
                  have HB6 := Lib.hid hB6
                  clear hO6 hg6 hB6 hyb hz1 hz2
                  go_wp2_with fail
                  go_roundw
                  case rel => exact ⟨m + 1, xs ++ [y, (⟨#[90]⟩ : ByteArray) ++ y, (⟨#[95]⟩ : ByteArray) ++ y], _, by omega, by rw [List.length_append]; omega, by omega, by go_num, rfl, by rw [List.length_append]; simp only [List.length_cons, List.length_nil]; omega, HO6.out, fun x hx => by
                    rcases List.mem_append.1 hx with h | h
                    · exact HXS.out x h
                    · have h3 := HZ.out
                      simp only [List.mem_cons, List.mem_nil_iff, or_false] at h
                      rcases h with rfl | rfl | rfl
                      · exact h3.1
                      · exact h3.2.1
                      · exact h3.2.2, HB6.out, hX6⟩
                  case measure => simp [intOf]; omega
            · have hdm : decide ((m : Int) < 35) = false := by simp; omega
              clear hrow hxs hB hrow3 hB3
              go_wp2_with fail
              have HRS : Hid (∃ g cap, v = .slice (some ⟨g, 0, none⟩) xs.length cap) := Lib.hid (by
                rcases HR.out.2 with ⟨_, h0⟩ | ⟨g, cap, cur, hv, _⟩
                · exfalso; omega
                · exact ⟨g, cap, hv⟩)
              obtain ⟨g, cap, rfl⟩ := HRS.out
              obtain ⟨W4, hW4⟩ : ∃ W, wr = W := ⟨_, rfl⟩
              rw [hW4] at HR HB ⊢
              have hgl : g < W4.heap.size := (HR.out.lt g rfl).2
              have HAT : Hid (∀ (i : Nat) (x : ByteArray), xs[i]? = some x → ∀ W, Below W4.heap.size W4 W → W.cell? ⟨g, i, none⟩ = some (.string x) ∧ x.size ≤ 40) := Lib.hid (fun i x hx W hW => by
                have hi := (List.getElem?_eq_some_iff.1 hx).1
                refine ⟨?_, HXS.out x (List.mem_of_getElem? hx)⟩
                rw [hW.cell (p := ⟨g, i, none⟩) hgl, HR.out.cellAt i (by omega), List.getElem?_map, hx]; rfl)
              have HL : Hid (∀ i, i < xs.length → ∃ x, xs[i]? = some x) := Lib.hid (fun i hi => ⟨xs[i], List.getElem?_eq_getElem hi⟩)
              have hl60 : xs.length ≤ 60 := by omega
              generalize xs.length = len at HAT HL hl60 ⊢
              clear HRS HR HXS hW4 hX3w hXs
              go_loopw [14] (fun o wr => ∃ i : Nat, i ≤ len ∧ o = .int .i64 i ∧ Below W4.heap.size W4 wr) (fun o _ => len - (intOf o).toNat)
              case atStart => exact ⟨0, Nat.zero_le _, rfl, Below.refl _ _⟩
              case round =>
                obtain ⟨i, hil, rfl, hBi⟩ := hrel
                by_cases hli : i < len
                · have hdi : decide ((i : Int) < (len : Int)) = true := by simp; omega
                  obtain ⟨sa, hsa⟩ := HL.out i hli
                  have HSA := Lib.hid (HAT.out i sa hsa)
                  have HBI := Lib.hid hBi
                  clear hBi hsa
                  go_wp2_with fail
                  go_loopw [15] (fun o wr => ∃ k : Nat, k ≤ len ∧ o = .int .i64 k ∧ Below W4.heap.size W4 wr) (fun o _ => len - (intOf o).toNat)
                  case atStart => exact ⟨0, Nat.zero_le _, rfl, HBI.out⟩
                  case round =>
                    obtain ⟨k, hkl, rfl, hBk⟩ := hrel
                    have HBK := Lib.hid hBk
                    by_cases hlk : k < len
                    · have hdk : decide ((k : Int) < (len : Int)) = true := by simp; omega
                      obtain ⟨sb, hsb⟩ := HL.out k hlk
                      obtain ⟨ga, hsz1⟩ := HSA.out wr hBk
                      obtain ⟨gb, hsz2⟩ := HAT.out k sb hsb wr hBk
                      have hsz3 : (sa ++ (⟨#[32]⟩ : ByteArray)).size ≤ 41 := by rw [ByteArray.size_append]; show _ + 1 ≤ _; omega
                      have hlg : g < wr.heap.size := Nat.lt_of_lt_of_le hgl hBk.size
                      have HX4 : Hid (∀ s wx, Below wr.heap.size wr wx → Calls Tryz.prog 7 #[.string s] wx fun e w' => e = .returned (.bool true) ∧ Below wx.heap.size wx w') := Lib.hid (fun s wx hwx => HX.out s wx ((HB.out.trans (hBk.mono HB.out.size)).trans (hwx.mono (HB.out.trans (hBk.mono HB.out.size)).size)))
                      have i1 : (0 : Int) ≤ (i : Int) := by omega
                      have i2 : (i : Int) < (len : Int) := by omega
                      have i3 : (0 : Int) ≤ (k : Int) := by omega
                      have i4 : (k : Int) < (len : Int) := by omega
                      clear hsb hBk
                      go_wp2_with fail
                      as_aux_lemma =>
                        refine wp_region_grow_tail (by kernel_rfl) 24 (FQ [ .val (.slice (some ⟨g, 0, none⟩) len cap), .val (.int .i64 i), .val (.pointer (some ⟨g, i, none⟩)), .val (.string sa), .val (.slice (some ⟨g, 0, none⟩) len cap), .val (.int .i64 k), .val (.pointer (some ⟨g, k, none⟩)), .val (.string sb), .val (.string (sa ++ sb)), .val (.bool true), .val (.bool false), .val (.bool false), .val (.slice (some ⟨g, 0, none⟩) len cap), .val (.int .i64 i), .val (.pointer (some ⟨g, i, none⟩)), .val (.string sa), .val (.string (sa ++ (⟨#[32]⟩ : ByteArray))), .val (.slice (some ⟨g, 0, none⟩) len cap), .val (.int .i64 k), .val (.pointer (some ⟨g, k, none⟩)), .val (.string sb), .val (.string ((sa ++ (⟨#[32]⟩ : ByteArray)) ++ sb)), .val (.bool true), .val (.bool false)]) (FQ_grow _) (by kernel_rfl) (by kernel_rfl) (steps_to ?_) ?_
                        · simp only [List.take_succ_cons, List.take_zero]
                          refine ⟨?_, ?_, ?_, ?_, ?_, ?_, ?_, ?_, ?_, ?_, ?_, ?_, ?_, ?_, ?_, ?_, ?_, ?_, ?_, ?_, ?_, ?_, ?_, ?_, trivial⟩
                          · intro a wx hb hd hs ho hp
                            refine ⟨rfl, ?_⟩
                            have h9 : a.tmps.getD 9 undef = _ := (ho 9 (by kernel_rfl)).trans rfl
                            unfold Oper.wp
                            go_simp
                            exact Stepped.at rfl hd (Below.refl _ _) (FQ_mk (.val (.slice (some ⟨g, 0, none⟩) len cap)) rfl (by first | rfl | simp))
                          · intro a wx hb hd hs ho hp
                            refine ⟨rfl, ?_⟩
                            have h14 : a.tmps.getD 14 undef = _ := (ho 14 (by kernel_rfl)).trans rfl
                            unfold Oper.wp
                            go_simp
                            exact Stepped.at rfl hd (Below.refl _ _) (FQ_mk (.val (.int .i64 i)) rfl (by first | rfl | simp))
                          · intro a wx hb hd hs ho hp
                            refine ⟨rfl, ?_⟩
                            have h148 : a.tmps.getD 148 undef = .slice (some ⟨g, 0, none⟩) len cap := qval_at hp 0 148 (by kernel_rfl) rfl
                            have h149 : a.tmps.getD 149 undef = .int .i64 i := qval_at hp 1 149 (by kernel_rfl) rfl
                            unfold Oper.wp
                            go_simp
                            exact Stepped.at rfl hd (Below.refl _ _) (FQ_mk (.val (.pointer (some ⟨g, i, none⟩))) rfl (by first | rfl | simp))
                          · intro a wx hb hd hs ho hp
                            refine ⟨rfl, ?_⟩
                            have h150 : a.tmps.getD 150 undef = .pointer (some ⟨g, i, none⟩) := qval_at hp 2 150 (by kernel_rfl) rfl
                            have x0 := (hb.cell (p := ⟨g, i, none⟩) hlg).trans ga
                            unfold Oper.wp
                            go_simp
                            exact Stepped.at rfl hd (Below.refl _ _) (FQ_mk (.val (.string sa)) rfl rfl)
                          · intro a wx hb hd hs ho hp
                            refine ⟨rfl, ?_⟩
                            have h9 : a.tmps.getD 9 undef = _ := (ho 9 (by kernel_rfl)).trans rfl
                            unfold Oper.wp
                            go_simp
                            exact Stepped.at rfl hd (Below.refl _ _) (FQ_mk (.val (.slice (some ⟨g, 0, none⟩) len cap)) rfl (by first | rfl | simp))
                          · intro a wx hb hd hs ho hp
                            refine ⟨rfl, ?_⟩
                            have h15 : a.tmps.getD 15 undef = _ := (ho 15 (by kernel_rfl)).trans rfl
                            unfold Oper.wp
                            go_simp
                            exact Stepped.at rfl hd (Below.refl _ _) (FQ_mk (.val (.int .i64 k)) rfl (by first | rfl | simp))
                          · intro a wx hb hd hs ho hp
                            refine ⟨rfl, ?_⟩
                            have h152 : a.tmps.getD 152 undef = .slice (some ⟨g, 0, none⟩) len cap := qval_at hp 4 152 (by kernel_rfl) rfl
                            have h153 : a.tmps.getD 153 undef = .int .i64 k := qval_at hp 5 153 (by kernel_rfl) rfl
                            unfold Oper.wp
                            go_simp
                            exact Stepped.at rfl hd (Below.refl _ _) (FQ_mk (.val (.pointer (some ⟨g, k, none⟩))) rfl (by first | rfl | simp))
                          · intro a wx hb hd hs ho hp
                            refine ⟨rfl, ?_⟩
                            have h154 : a.tmps.getD 154 undef = .pointer (some ⟨g, k, none⟩) := qval_at hp 6 154 (by kernel_rfl) rfl
                            have x0 := (hb.cell (p := ⟨g, k, none⟩) hlg).trans gb
                            unfold Oper.wp
                            go_simp
                            exact Stepped.at rfl hd (Below.refl _ _) (FQ_mk (.val (.string sb)) rfl rfl)
                          · intro a wx hb hd hs ho hp
                            refine ⟨rfl, ?_⟩
                            have h151 : a.tmps.getD 151 undef = .string sa := qval_at hp 3 151 (by kernel_rfl) rfl
                            have h155 : a.tmps.getD 155 undef = .string sb := qval_at hp 7 155 (by kernel_rfl) rfl
                            unfold Oper.wp
                            go_simp
                            rw [if_neg (by first | omega | (simp only [ByteArray.size_append] at *; omega))]
                            go_simp
                            exact Stepped.at rfl hd (Below.refl _ _) (FQ_mk (.val (.string (sa ++ sb))) rfl (by first | rfl | simp))
                          · intro a wx hb hd hs ho hp
                            refine ⟨rfl, ?_⟩
                            have h156 : a.tmps.getD 156 undef = .string (sa ++ sb) := qval_at hp 8 156 (by kernel_rfl) rfl
                            unfold Oper.wp
                            go_simp
                            refine ((HX4.out _ wx hb)).mono ?_
                            rintro e w2 ⟨rfl, hb2⟩
                            exact Stepped.at rfl hd hb2 (FQ_mk (.val (.bool true)) rfl rfl)
                          · intro a wx hb hd hs ho hp
                            refine ⟨rfl, ?_⟩
                            have h157 : a.tmps.getD 157 undef = .bool true := qval_at hp 9 157 (by kernel_rfl) rfl
                            unfold Oper.wp
                            go_simp
                            exact Stepped.at rfl hd (Below.refl _ _) (FQ_mk (.val (.bool false)) rfl (by first | rfl | simp))
                          · intro a wx hb hd hs ho hp
                            refine ⟨rfl, ?_⟩
                            have h158 : a.tmps.getD 158 undef = .bool false := qval_at hp 10 158 (by kernel_rfl) rfl
                            unfold Oper.wp
                            go_simp
                            exact Stepped.at rfl hd (Below.refl _ _) (FQ_mk (.val (.bool false)) rfl (by first | rfl | simp))
                          · intro a wx hb hd hs ho hp
                            refine ⟨wanted_false rfl (yielded_at (k := 11) (d := 159) (by kernel_rfl) (qval_at hp 11 159 (by kernel_rfl) rfl)), ?_⟩
                            have h9 : a.tmps.getD 9 undef = _ := (ho 9 (by kernel_rfl)).trans rfl
                            unfold Oper.wp
                            go_simp
                            exact Stepped.at rfl hd (Below.refl _ _) (FQ_mk (.val (.slice (some ⟨g, 0, none⟩) len cap)) rfl (by first | rfl | simp))
                          · intro a wx hb hd hs ho hp
                            refine ⟨wanted_false rfl (yielded_at (k := 11) (d := 159) (by kernel_rfl) (qval_at hp 11 159 (by kernel_rfl) rfl)), ?_⟩
                            have h14 : a.tmps.getD 14 undef = _ := (ho 14 (by kernel_rfl)).trans rfl
                            unfold Oper.wp
                            go_simp
                            exact Stepped.at rfl hd (Below.refl _ _) (FQ_mk (.val (.int .i64 i)) rfl (by first | rfl | simp))
                          · intro a wx hb hd hs ho hp
                            refine ⟨wanted_false rfl (yielded_at (k := 11) (d := 159) (by kernel_rfl) (qval_at hp 11 159 (by kernel_rfl) rfl)), ?_⟩
                            have h160 : a.tmps.getD 160 undef = .slice (some ⟨g, 0, none⟩) len cap := qval_at hp 12 160 (by kernel_rfl) rfl
                            have h161 : a.tmps.getD 161 undef = .int .i64 i := qval_at hp 13 161 (by kernel_rfl) rfl
                            unfold Oper.wp
                            go_simp
                            exact Stepped.at rfl hd (Below.refl _ _) (FQ_mk (.val (.pointer (some ⟨g, i, none⟩))) rfl (by first | rfl | simp))
                          · intro a wx hb hd hs ho hp
                            refine ⟨wanted_false rfl (yielded_at (k := 11) (d := 159) (by kernel_rfl) (qval_at hp 11 159 (by kernel_rfl) rfl)), ?_⟩
                            have h162 : a.tmps.getD 162 undef = .pointer (some ⟨g, i, none⟩) := qval_at hp 14 162 (by kernel_rfl) rfl
                            have x0 := (hb.cell (p := ⟨g, i, none⟩) hlg).trans ga
                            unfold Oper.wp
                            go_simp
                            exact Stepped.at rfl hd (Below.refl _ _) (FQ_mk (.val (.string sa)) rfl rfl)
                          · intro a wx hb hd hs ho hp
                            refine ⟨wanted_false rfl (yielded_at (k := 11) (d := 159) (by kernel_rfl) (qval_at hp 11 159 (by kernel_rfl) rfl)), ?_⟩
                            have h163 : a.tmps.getD 163 undef = .string sa := qval_at hp 15 163 (by kernel_rfl) rfl
                            unfold Oper.wp
                            go_simp
                            rw [if_neg (by first | omega | (simp only [ByteArray.size_append] at *; omega))]
                            go_simp
                            exact Stepped.at rfl hd (Below.refl _ _) (FQ_mk (.val (.string (sa ++ (⟨#[32]⟩ : ByteArray)))) rfl (by first | rfl | simp))
                          · intro a wx hb hd hs ho hp
                            refine ⟨wanted_false rfl (yielded_at (k := 11) (d := 159) (by kernel_rfl) (qval_at hp 11 159 (by kernel_rfl) rfl)), ?_⟩
                            have h9 : a.tmps.getD 9 undef = _ := (ho 9 (by kernel_rfl)).trans rfl
                            unfold Oper.wp
                            go_simp
                            exact Stepped.at rfl hd (Below.refl _ _) (FQ_mk (.val (.slice (some ⟨g, 0, none⟩) len cap)) rfl (by first | rfl | simp))
                          · intro a wx hb hd hs ho hp
                            refine ⟨wanted_false rfl (yielded_at (k := 11) (d := 159) (by kernel_rfl) (qval_at hp 11 159 (by kernel_rfl) rfl)), ?_⟩
                            have h15 : a.tmps.getD 15 undef = _ := (ho 15 (by kernel_rfl)).trans rfl
                            unfold Oper.wp
                            go_simp
                            exact Stepped.at rfl hd (Below.refl _ _) (FQ_mk (.val (.int .i64 k)) rfl (by first | rfl | simp))
                          · intro a wx hb hd hs ho hp
                            refine ⟨wanted_false rfl (yielded_at (k := 11) (d := 159) (by kernel_rfl) (qval_at hp 11 159 (by kernel_rfl) rfl)), ?_⟩
                            have h165 : a.tmps.getD 165 undef = .slice (some ⟨g, 0, none⟩) len cap := qval_at hp 17 165 (by kernel_rfl) rfl
                            have h166 : a.tmps.getD 166 undef = .int .i64 k := qval_at hp 18 166 (by kernel_rfl) rfl
                            unfold Oper.wp
                            go_simp
                            exact Stepped.at rfl hd (Below.refl _ _) (FQ_mk (.val (.pointer (some ⟨g, k, none⟩))) rfl (by first | rfl | simp))
                          · intro a wx hb hd hs ho hp
                            refine ⟨wanted_false rfl (yielded_at (k := 11) (d := 159) (by kernel_rfl) (qval_at hp 11 159 (by kernel_rfl) rfl)), ?_⟩
                            have h167 : a.tmps.getD 167 undef = .pointer (some ⟨g, k, none⟩) := qval_at hp 19 167 (by kernel_rfl) rfl
                            have x0 := (hb.cell (p := ⟨g, k, none⟩) hlg).trans gb
                            unfold Oper.wp
                            go_simp
                            exact Stepped.at rfl hd (Below.refl _ _) (FQ_mk (.val (.string sb)) rfl rfl)
                          · intro a wx hb hd hs ho hp
                            refine ⟨wanted_false rfl (yielded_at (k := 11) (d := 159) (by kernel_rfl) (qval_at hp 11 159 (by kernel_rfl) rfl)), ?_⟩
                            have h164 : a.tmps.getD 164 undef = .string (sa ++ (⟨#[32]⟩ : ByteArray)) := qval_at hp 16 164 (by kernel_rfl) rfl
                            have h168 : a.tmps.getD 168 undef = .string sb := qval_at hp 20 168 (by kernel_rfl) rfl
                            unfold Oper.wp
                            go_simp
                            rw [if_neg (by first | omega | (simp only [ByteArray.size_append] at *; omega))]
                            go_simp
                            exact Stepped.at rfl hd (Below.refl _ _) (FQ_mk (.val (.string ((sa ++ (⟨#[32]⟩ : ByteArray)) ++ sb))) rfl (by first | rfl | simp))
                          · intro a wx hb hd hs ho hp
                            refine ⟨wanted_false rfl (yielded_at (k := 11) (d := 159) (by kernel_rfl) (qval_at hp 11 159 (by kernel_rfl) rfl)), ?_⟩
                            have h169 : a.tmps.getD 169 undef = .string ((sa ++ (⟨#[32]⟩ : ByteArray)) ++ sb) := qval_at hp 21 169 (by kernel_rfl) rfl
                            unfold Oper.wp
                            go_simp
                            refine ((HX4.out _ wx hb)).mono ?_
                            rintro e w2 ⟨rfl, hb2⟩
                            exact Stepped.at rfl hd hb2 (FQ_mk (.val (.bool true)) rfl rfl)
                          · intro a wx hb hd hs ho hp
                            refine ⟨wanted_false rfl (yielded_at (k := 11) (d := 159) (by kernel_rfl) (qval_at hp 11 159 (by kernel_rfl) rfl)), ?_⟩
                            have h170 : a.tmps.getD 170 undef = .bool true := qval_at hp 22 170 (by kernel_rfl) rfl
                            unfold Oper.wp
                            go_simp
                            exact Stepped.at rfl hd (Below.refl _ _) (FQ_mk (.val (.bool false)) rfl (by first | rfl | simp))
                        intro a7 w7 hb7 hd7 hs7 ho7 hf7
                        have k148 : a7.tmps.getD 148 undef = .slice (some ⟨g, 0, none⟩) len cap := FQ_at (.val (.slice (some ⟨g, 0, none⟩) len cap)) rfl (facts_to hf7 0 148 (by decide) (by kernel_rfl))
                        have k149 : a7.tmps.getD 149 undef = .int .i64 i := FQ_at (.val (.int .i64 i)) rfl (facts_to hf7 1 149 (by decide) (by kernel_rfl))
                        have k150 : a7.tmps.getD 150 undef = .pointer (some ⟨g, i, none⟩) := FQ_at (.val (.pointer (some ⟨g, i, none⟩))) rfl (facts_to hf7 2 150 (by decide) (by kernel_rfl))
                        have k151 : a7.tmps.getD 151 undef = .string sa := FQ_at (.val (.string sa)) rfl (facts_to hf7 3 151 (by decide) (by kernel_rfl))
                        have k152 : a7.tmps.getD 152 undef = .slice (some ⟨g, 0, none⟩) len cap := FQ_at (.val (.slice (some ⟨g, 0, none⟩) len cap)) rfl (facts_to hf7 4 152 (by decide) (by kernel_rfl))
                        have k153 : a7.tmps.getD 153 undef = .int .i64 k := FQ_at (.val (.int .i64 k)) rfl (facts_to hf7 5 153 (by decide) (by kernel_rfl))
                        have k154 : a7.tmps.getD 154 undef = .pointer (some ⟨g, k, none⟩) := FQ_at (.val (.pointer (some ⟨g, k, none⟩))) rfl (facts_to hf7 6 154 (by decide) (by kernel_rfl))
                        have k155 : a7.tmps.getD 155 undef = .string sb := FQ_at (.val (.string sb)) rfl (facts_to hf7 7 155 (by decide) (by kernel_rfl))
                        have k156 : a7.tmps.getD 156 undef = .string (sa ++ sb) := FQ_at (.val (.string (sa ++ sb))) rfl (facts_to hf7 8 156 (by decide) (by kernel_rfl))
                        have k157 : a7.tmps.getD 157 undef = .bool true := FQ_at (.val (.bool true)) rfl (facts_to hf7 9 157 (by decide) (by kernel_rfl))
                        have k158 : a7.tmps.getD 158 undef = .bool false := FQ_at (.val (.bool false)) rfl (facts_to hf7 10 158 (by decide) (by kernel_rfl))
                        have k159 : a7.tmps.getD 159 undef = .bool false := FQ_at (.val (.bool false)) rfl (facts_to hf7 11 159 (by decide) (by kernel_rfl))
                        have k160 : a7.tmps.getD 160 undef = .slice (some ⟨g, 0, none⟩) len cap := FQ_at (.val (.slice (some ⟨g, 0, none⟩) len cap)) rfl (facts_to hf7 12 160 (by decide) (by kernel_rfl))
                        have k161 : a7.tmps.getD 161 undef = .int .i64 i := FQ_at (.val (.int .i64 i)) rfl (facts_to hf7 13 161 (by decide) (by kernel_rfl))
                        have k162 : a7.tmps.getD 162 undef = .pointer (some ⟨g, i, none⟩) := FQ_at (.val (.pointer (some ⟨g, i, none⟩))) rfl (facts_to hf7 14 162 (by decide) (by kernel_rfl))
                        have k163 : a7.tmps.getD 163 undef = .string sa := FQ_at (.val (.string sa)) rfl (facts_to hf7 15 163 (by decide) (by kernel_rfl))
                        have k164 : a7.tmps.getD 164 undef = .string (sa ++ (⟨#[32]⟩ : ByteArray)) := FQ_at (.val (.string (sa ++ (⟨#[32]⟩ : ByteArray)))) rfl (facts_to hf7 16 164 (by decide) (by kernel_rfl))
                        have k165 : a7.tmps.getD 165 undef = .slice (some ⟨g, 0, none⟩) len cap := FQ_at (.val (.slice (some ⟨g, 0, none⟩) len cap)) rfl (facts_to hf7 17 165 (by decide) (by kernel_rfl))
                        have k166 : a7.tmps.getD 166 undef = .int .i64 k := FQ_at (.val (.int .i64 k)) rfl (facts_to hf7 18 166 (by decide) (by kernel_rfl))
                        have k167 : a7.tmps.getD 167 undef = .pointer (some ⟨g, k, none⟩) := FQ_at (.val (.pointer (some ⟨g, k, none⟩))) rfl (facts_to hf7 19 167 (by decide) (by kernel_rfl))
                        have k168 : a7.tmps.getD 168 undef = .string sb := FQ_at (.val (.string sb)) rfl (facts_to hf7 20 168 (by decide) (by kernel_rfl))
                        have k169 : a7.tmps.getD 169 undef = .string ((sa ++ (⟨#[32]⟩ : ByteArray)) ++ sb) := FQ_at (.val (.string ((sa ++ (⟨#[32]⟩ : ByteArray)) ++ sb))) rfl (facts_to hf7 21 169 (by decide) (by kernel_rfl))
                        have k170 : a7.tmps.getD 170 undef = .bool true := FQ_at (.val (.bool true)) rfl (facts_to hf7 22 170 (by decide) (by kernel_rfl))
                        have k171 : a7.tmps.getD 171 undef = .bool false := FQ_at (.val (.bool false)) rfl (facts_to hf7 23 171 (by decide) (by kernel_rfl))
                        have hE7 := slots_lit (a := a7.tmps) [u0, Value.int IntKind.i64 ↑b, u2, Value.string A, Value.slice (some { block := X2, off := 0 }) 8 8, Value.int IntKind.i64 ↑q, u6, u7, u8, Value.slice (some { block := g, off := 0 }) len cap, Value.int IntKind.i64 ↑m, u11, u12, u13, Value.int IntKind.i64 ↑i, Value.int IntKind.i64 ↑k, undef, Value.int IntKind.i64 ↑b, Value.bool false, u19, u20, u21, u22, u23, u24, u25, u26, u27, u28, u29, u30, u31, u32, u33, u34, u35, u36, u37, u38, u39, u40, u41, u42, u43, u44, u45, u46, u47, u48, u49, u50, u51, u52, u53, u54, u55, u56, u57, u58, u59, u60, u61, u62, u63, u64, u65, u66, u67, u68, u69, u70, u71, u72, u73, u74, u75, u76, u77, u78, u79, u80, u81, u82, Value.slice (some { block := X2, off := 0 }) 8 8, Value.int IntKind.i64 ↑q, Value.bool false, u86, u87, u88, u89, u90, u91, u92, u93, u94, u95, u96, u97, u98, u99, u100, u101, u102, u103, u104, u105, u106, u107, u108, u109, u110, u111, Value.slice (some { block := X3, off := 0 }) 37 37, Value.int IntKind.i64 ↑m, Value.bool false, u115, u116, u117, u118, u119, u120, u121, u122, u123, u124, u125, u126, u127, u128, u129, u130, u131, u132, u133, u134, u135, Value.int IntKind.i64 ↑i, Value.slice (some { block := g, off := 0 }) len cap, Value.int IntKind.i64 ↑len, Value.bool true, u140, u141, Value.int IntKind.i64 ↑k, Value.slice (some { block := g, off := 0 }) len cap, Value.int IntKind.i64 ↑len, Value.bool true, u146, u147, .slice (some ⟨g, 0, none⟩) len cap, .int .i64 i, .pointer (some ⟨g, i, none⟩), .string sa, .slice (some ⟨g, 0, none⟩) len cap, .int .i64 k, .pointer (some ⟨g, k, none⟩), .string sb, .string (sa ++ sb), .bool true, .bool false, .bool false, .slice (some ⟨g, 0, none⟩) len cap, .int .i64 i, .pointer (some ⟨g, i, none⟩), .string sa, .string (sa ++ (⟨#[32]⟩ : ByteArray)), .slice (some ⟨g, 0, none⟩) len cap, .int .i64 k, .pointer (some ⟨g, k, none⟩), .string sb, .string ((sa ++ (⟨#[32]⟩ : ByteArray)) ++ sb), .bool true, .bool false, u172, undef, undef, undef, undef, undef, undef, undef, undef, undef, undef, undef, undef, undef, undef, undef, undef, undef, undef, undef] (hs7.trans rfl) ⟨ho7 0 (by kernel_rfl), ho7 1 (by kernel_rfl), ho7 2 (by kernel_rfl), ho7 3 (by kernel_rfl), ho7 4 (by kernel_rfl), ho7 5 (by kernel_rfl), ho7 6 (by kernel_rfl), ho7 7 (by kernel_rfl), ho7 8 (by kernel_rfl), ho7 9 (by kernel_rfl), ho7 10 (by kernel_rfl), ho7 11 (by kernel_rfl), ho7 12 (by kernel_rfl), ho7 13 (by kernel_rfl), ho7 14 (by kernel_rfl), ho7 15 (by kernel_rfl), ho7 16 (by kernel_rfl), ho7 17 (by kernel_rfl), ho7 18 (by kernel_rfl), ho7 19 (by kernel_rfl), ho7 20 (by kernel_rfl), ho7 21 (by kernel_rfl), ho7 22 (by kernel_rfl), ho7 23 (by kernel_rfl), ho7 24 (by kernel_rfl), ho7 25 (by kernel_rfl), ho7 26 (by kernel_rfl), ho7 27 (by kernel_rfl), ho7 28 (by kernel_rfl), ho7 29 (by kernel_rfl), ho7 30 (by kernel_rfl), ho7 31 (by kernel_rfl), ho7 32 (by kernel_rfl), ho7 33 (by kernel_rfl), ho7 34 (by kernel_rfl), ho7 35 (by kernel_rfl), ho7 36 (by kernel_rfl), ho7 37 (by kernel_rfl), ho7 38 (by kernel_rfl), ho7 39 (by kernel_rfl), ho7 40 (by kernel_rfl), ho7 41 (by kernel_rfl), ho7 42 (by kernel_rfl), ho7 43 (by kernel_rfl), ho7 44 (by kernel_rfl), ho7 45 (by kernel_rfl), ho7 46 (by kernel_rfl), ho7 47 (by kernel_rfl), ho7 48 (by kernel_rfl), ho7 49 (by kernel_rfl), ho7 50 (by kernel_rfl), ho7 51 (by kernel_rfl), ho7 52 (by kernel_rfl), ho7 53 (by kernel_rfl), ho7 54 (by kernel_rfl), ho7 55 (by kernel_rfl), ho7 56 (by kernel_rfl), ho7 57 (by kernel_rfl), ho7 58 (by kernel_rfl), ho7 59 (by kernel_rfl), ho7 60 (by kernel_rfl), ho7 61 (by kernel_rfl), ho7 62 (by kernel_rfl), ho7 63 (by kernel_rfl), ho7 64 (by kernel_rfl), ho7 65 (by kernel_rfl), ho7 66 (by kernel_rfl), ho7 67 (by kernel_rfl), ho7 68 (by kernel_rfl), ho7 69 (by kernel_rfl), ho7 70 (by kernel_rfl), ho7 71 (by kernel_rfl), ho7 72 (by kernel_rfl), ho7 73 (by kernel_rfl), ho7 74 (by kernel_rfl), ho7 75 (by kernel_rfl), ho7 76 (by kernel_rfl), ho7 77 (by kernel_rfl), ho7 78 (by kernel_rfl), ho7 79 (by kernel_rfl), ho7 80 (by kernel_rfl), ho7 81 (by kernel_rfl), ho7 82 (by kernel_rfl), ho7 83 (by kernel_rfl), ho7 84 (by kernel_rfl), ho7 85 (by kernel_rfl), ho7 86 (by kernel_rfl), ho7 87 (by kernel_rfl), ho7 88 (by kernel_rfl), ho7 89 (by kernel_rfl), ho7 90 (by kernel_rfl), ho7 91 (by kernel_rfl), ho7 92 (by kernel_rfl), ho7 93 (by kernel_rfl), ho7 94 (by kernel_rfl), ho7 95 (by kernel_rfl), ho7 96 (by kernel_rfl), ho7 97 (by kernel_rfl), ho7 98 (by kernel_rfl), ho7 99 (by kernel_rfl), ho7 100 (by kernel_rfl), ho7 101 (by kernel_rfl), ho7 102 (by kernel_rfl), ho7 103 (by kernel_rfl), ho7 104 (by kernel_rfl), ho7 105 (by kernel_rfl), ho7 106 (by kernel_rfl), ho7 107 (by kernel_rfl), ho7 108 (by kernel_rfl), ho7 109 (by kernel_rfl), ho7 110 (by kernel_rfl), ho7 111 (by kernel_rfl), ho7 112 (by kernel_rfl), ho7 113 (by kernel_rfl), ho7 114 (by kernel_rfl), ho7 115 (by kernel_rfl), ho7 116 (by kernel_rfl), ho7 117 (by kernel_rfl), ho7 118 (by kernel_rfl), ho7 119 (by kernel_rfl), ho7 120 (by kernel_rfl), ho7 121 (by kernel_rfl), ho7 122 (by kernel_rfl), ho7 123 (by kernel_rfl), ho7 124 (by kernel_rfl), ho7 125 (by kernel_rfl), ho7 126 (by kernel_rfl), ho7 127 (by kernel_rfl), ho7 128 (by kernel_rfl), ho7 129 (by kernel_rfl), ho7 130 (by kernel_rfl), ho7 131 (by kernel_rfl), ho7 132 (by kernel_rfl), ho7 133 (by kernel_rfl), ho7 134 (by kernel_rfl), ho7 135 (by kernel_rfl), ho7 136 (by kernel_rfl), ho7 137 (by kernel_rfl), ho7 138 (by kernel_rfl), ho7 139 (by kernel_rfl), ho7 140 (by kernel_rfl), ho7 141 (by kernel_rfl), ho7 142 (by kernel_rfl), ho7 143 (by kernel_rfl), ho7 144 (by kernel_rfl), ho7 145 (by kernel_rfl), ho7 146 (by kernel_rfl), ho7 147 (by kernel_rfl), k148, k149, k150, k151, k152, k153, k154, k155, k156, k157, k158, k159, k160, k161, k162, k163, k164, k165, k166, k167, k168, k169, k170, k171, ho7 172 (by kernel_rfl), ho7 173 (by kernel_rfl), ho7 174 (by kernel_rfl), ho7 175 (by kernel_rfl), ho7 176 (by kernel_rfl), ho7 177 (by kernel_rfl), ho7 178 (by kernel_rfl), ho7 179 (by kernel_rfl), ho7 180 (by kernel_rfl), ho7 181 (by kernel_rfl), ho7 182 (by kernel_rfl), ho7 183 (by kernel_rfl), ho7 184 (by kernel_rfl), ho7 185 (by kernel_rfl), ho7 186 (by kernel_rfl), ho7 187 (by kernel_rfl), ho7 188 (by kernel_rfl), ho7 189 (by kernel_rfl), ho7 190 (by kernel_rfl), ho7 191 (by kernel_rfl), trivial⟩
                        obtain ⟨T7, D7⟩ := a7
                        simp only at hE7 hd7
                        subst hd7 hE7
                        have HB7 := Lib.hid (HBK.out.trans (hb7.mono HBK.out.size))
                        clear k148 k149 k150 k151 k152 k153 k154 k155 k156 k157 k158 k159 k160 k161 k162 k163 k164 k165 k166 k167 k168 k169 k170 k171 hf7 hs7 ho7 hb7
                        simp only [List.drop_succ_cons, List.drop_zero]
                        go_wp2_with fail
                        go_roundw
                        case rel => exact ⟨k + 1, by omega, by go_num, HB7.out⟩
                        case measure => simp [intOf]; omega
                    · have hdk : decide ((k : Int) < (len : Int)) = false := by simp; omega
                      clear hBk
                      go_wp2_with fail
                      go_roundw
                      case rel => exact ⟨i + 1, by omega, by go_num, HBK.out⟩
                      case measure => simp [intOf]; omega
                · have hdi : decide ((i : Int) < (len : Int)) = false := by simp; omega
                  have HB5 := Lib.hid (HB.out.trans (hBi.mono HB.out.size))
                  clear hBi HB HAT HL
                  go_wp2_with fail
                  go_loopw [16] (fun o wr => ∃ n : Nat, 32767 ≤ n ∧ n ≤ 32770 ∧ o = .int .i64 n ∧ Below w.heap.size w wr) (fun o _ => 32770 - (intOf o).toNat)
                  case atStart => exact ⟨32767, by omega, by omega, rfl, HB5.out⟩
                  case round =>
                    obtain ⟨n, hn0, hn1, rfl, hB⟩ := hrel
                    have HB := Lib.hid hB
                    clear hB
                    by_cases hln : n < 32770
                    · have hdn : decide ((n : Int) < 32770) = true := by simp; omega
                      obtain ⟨mm, hm0⟩ : ∃ mm : Nat, n = mm + 1 := ⟨n - 1, by omega⟩
                      have hmb : mm ≤ 40000 := by omega
                      have hsub : (n : Int) - 1 = (mm : Int) := by omega
                      have HN := Lib.hid (And.intro hn0 (And.intro hn1 hln))
                      have hn2 : (0 : Int) ≤ (n : Int) := by omega
                      have hn3 : (n : Int) ≤ 40000 := by omega
                      clear hm0 hn0 hn1 hln
                      go_wp2_with fail
                      refine (spaces_any mm (by omega) wr).mono ?_
                      rintro e w2 ⟨x, hx, rfl, hb2⟩
                      have HB2 := Lib.hid (HB.out.trans (hb2.mono HB.out.size))
                      clear hb2 HB
                      have HB := HB2
                      clear HB2
                      have hxb : x.size ≤ 40000 := by omega
                      clear hx
                      go_wp2_with (first | (go_at_call 7; refine (HX.out _ _ HB.out).mono ?_; rintro e w2 ⟨rfl, hb2⟩; replace HB := Lib.hid (HB.out.trans (hb2.mono HB.out.size)); clear hb2))
                      refine (spaces_any mm (by omega) _).mono ?_
                      rintro e w5 ⟨x2, hx2, rfl, hb2⟩
                      have HB2 := Lib.hid (HB.out.trans (hb2.mono HB.out.size))
                      clear hb2 HB
                      have HB := HB2
                      clear HB2
                      have hxb2 : x2.size ≤ 40000 := by omega
                      clear hx2
                      go_wp2_with (first | (go_at_call 7; refine (HX.out _ _ HB.out).mono ?_; rintro e w2 ⟨rfl, hb2⟩; replace HB := Lib.hid (HB.out.trans (hb2.mono HB.out.size)); clear hb2))
                      go_roundw
                      case rel => exact ⟨n + 1, by have := HN.out; omega, by have := HN.out; omega, by go_num, HB.out⟩
                      case measure => have := HN.out; simp [intOf]; omega
                    · have hdn : decide ((n : Int) < 32770) = false := by simp; omega
                      go_wp2_with fail
                      refine (HA.out _ HB.out).mono ?_
                      rintro e w2 ⟨rfl, hb2⟩
                      have HB2 := Lib.hid (HB.out.trans (hb2.mono HB.out.size))
                      clear hb2 HB
                      go_wp2_with fail
                      go_ret
                      exact ⟨rfl, HB2.out⟩
end Go.Proofs.YtgepfenjbjlgpaaGreatDoor
