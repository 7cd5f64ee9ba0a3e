/- The closed law of lex: strings of many spaces. -/
import Derived.Test.YtgepfenjbjlgpaaGreatDoorProg
import Derived.Laws.BytesArg
import Derived.Laws.OwnMore
import Derived.WalkKit
import Derived.WalkSpells
import Derived.WalkLawsBesides
import Derived.Deep.QuietTactic
import Derived.BigQuiet
import Derived.Lib.Hide
import Derived.Below
import Derived.ProofKit
namespace Go.Proofs.YtgepfenjbjlgpaaGreatDoor
open Go.RowKit

theorem infoU : (Tryz.prog.info? 5).map (fun i => (i.zero, i.size, i.bytes)) = some (some (.int .u8 0), 1, 1) := by kernel_rfl
theorem made_zeros (n : Nat) : (madeCells (Value.int IntKind.u8 0).cells (n * 1)).toList = (List.replicate n (0 : Int)).map (Value.int .u8) := by
  rw [Nat.mul_one]
  refine List.ext_getElem (by rw [Array.length_toList, size_madeCells]; simp) ?_
  intro i h1 h2
  simp [madeCells, Value.cells, Nat.mod_one]
/-- A new slice of bytes. -/
theorem make_zeros (n : Nat) (hn : n ≤ 1000000) (w : World) (B : Nat) (hB : B ≤ w.heap.size) : ∃ w', (Instr.makeSlice 24 (.int .i64 (n : Int)) (.int .i64 (n : Int))).run Tryz.prog w = .ok (.slice (some ⟨w.heap.size, 0, none⟩) n n) w' ∧
    w'.ownsRow B 5 1 (.slice (some ⟨w.heap.size, 0, none⟩) n n) n ((List.replicate n (0 : Int)).map (Value.int .u8)) ∧ Below w.heap.size w w' := by
  obtain ⟨i0, hi, hz, hs, hb⟩ := info_parts infoU
  obtain ⟨w', h1, h2, h3⟩ := run_make_full (P := Tryz.prog) w B 24 5 i0 _ 1 Tryz.underlying24 hi hz hs .i64 .i64 n (by rw [hb]; omega) (by unfold maxLen; omega) hB
  rw [made_zeros] at h2
  exact ⟨w', h1, h2, (Below.refl _ w).grown h3 (Nat.le_refl _) (fun k e => by cases e)⟩
/-- Bytes that the call owns, as a string. -/
theorem conv_row {W : World} {B g n cap : Nat} {xs : List Int} (h : W.ownsRow B 5 1 (.slice (some ⟨g, 0, none⟩) n cap) n (xs.map (Value.int .u8))) (hx : xs.length = n) :
    (convert 24 9 (.slice (some ⟨g, 0, none⟩) n cap)).run Tryz.prog W = .ok (.string (strOfNums xs)) W :=
  run_convert_bytes_arg W 24 5 Tryz.underlying24 Tryz.underlying5 g 0 n cap xs hx (fun i hi => by
    rw [Nat.zero_add, h.cellAt i (by omega)]
    simp [hx, hi]) _ Tryz.underlying9

set_option maxRecDepth 100000 in
set_option maxHeartbeats 4000000 in
theorem spaces_any (n : Nat) (hn : n ≤ 1000000) (w : World) :
    Calls Tryz.prog 8 #[.int .i64 n] w fun e w' => ∃ x : ByteArray, x.size = n ∧ e = .returned (.string x) ∧ Below w.heap.size w w' := by
  obtain ⟨W1, hmk, hrow, hB1⟩ := make_zeros n hn w w.heap.size (Nat.le_refl _)
  have HR := Lib.hid hrow
  have HB := Lib.hid hB1
  clear hrow hB1
  go_enter Tryz.func8, Tryz.ntmps8
  go_wp2_with fail
  clear hmk
  go_loopw [4] (fun i wr => ∃ (k : Nat) (xs : List Int), k ≤ n ∧ i = .int .i64 k ∧ xs.length = n ∧ wr.ownsRow w.heap.size 5 1 (.slice (some ⟨w.heap.size, 0, none⟩) n n) n (xs.map (Value.int .u8)) ∧ Below w.heap.size w wr) (fun i _ => n - (intOf i).toNat)
  case atStart => exact ⟨0, List.replicate n 0, Nat.zero_le _, rfl, by simp, HR.out, HB.out⟩
  case round =>
    obtain ⟨k, xs, hk, rfl, hxs, hrow, hB⟩ := hrel
    have HRW := Lib.hid hrow
    have HBW := Lib.hid hB
    by_cases hlt : k < n
    · have c0 := hrow.cellAt k (by omega)
      rw [List.getElem?_map, List.getElem?_eq_getElem (show k < xs.length by omega)] at c0
      have f0 := hrow.frozenAt k
      clear hrow hB
      have hd : decide ((k : Int) < (n : Int)) = true := by simp; omega
      go_wp2_with fail
      have hst := HRW.out.stored k (.int .u8 32)
      have HS := Lib.hid hst.1
      have HG := Lib.hid hst.2
      have HXS := Lib.hid (List.map_set (f := Value.int .u8) (l := xs) (i := k) (a := (32 : Int)))
      clear hst c0 f0
      go_roundw
      case rel => exact ⟨k + 1, xs.set k 32, by omega, by go_num, by rw [List.length_set]; exact hxs, by first | (rw [HXS.out]; exact HS.out) | (rw [← HXS.out]; exact HS.out), HBW.out.setCell (p := ⟨w.heap.size, k, none⟩) (Nat.le_refl _) _⟩
      case measure => simp [intOf]; omega
    · have hcv := conv_row hrow hxs
      have hsz := strOfNums_size xs
      have HSZ := Lib.hid (hsz.trans hxs)
      generalize strOfNums xs = x at hcv HSZ
      have hd : decide ((k : Int) < (n : Int)) = false := by simp; omega
      clear hrow hB hsz
      go_wp2_with fail
      go_ret
      exact ⟨x, HSZ.out, rfl, HBW.out⟩
end Go.Proofs.YtgepfenjbjlgpaaGreatDoor
