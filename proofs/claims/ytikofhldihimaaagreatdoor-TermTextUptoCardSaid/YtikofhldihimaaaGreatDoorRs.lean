/- The statements' helpers: rises, SameTexts. -/
import Derived.Test.YtikofhldihimaaaGreatDoorHp
import Derived.IntWalk
import Derived.Deep.QuietTactic
import Derived.BigQuiet
namespace Go.Proofs.YtikofhldihimaaaGreatDoor
open Go.RowKit

set_option maxRecDepth 100000 in
set_option maxHeartbeats 2000000 in
theorem rises_true (ts : List Tm) (v : Value) (w : World) (hv : SlV w v ts) (hr : ∀ i (h : i + 1 < ts.length), Tm.cmp ts[i] ts[i + 1] = -1) :
    Calls Tryz.prog 18 #[v] w fun e w' => e = .returned (.bool true) ∧ Below w.heap.size w w' := by
  obtain ⟨a, cap, rfl, hl, hs⟩ := hv
  unfold maxLen at hl
  have HS := Lib.hid hs; clear hs
  have HR := Lib.hid hr; clear hr
  go_enter Tryz.func18, Tryz.ntmps18
  go_wp2_with fail
  go_loopw [3] (fun i wr => ∃ j : Nat, j ≤ ts.length ∧ i = .int .i64 ((j : Int) + 1) ∧ Below w.heap.size w wr) (fun i _ => ts.length + 1 - (intOf i).toNat)
  case atStart => exact ⟨0, by omega, by go_num, Below.refl _ _⟩
  case round =>
    obtain ⟨j, hj, rfl, hB⟩ := hrel
    by_cases hlt : j + 1 < ts.length
    · obtain ⟨b, off, rfl, hb, hI⟩ := HS.out (by intro e; rw [e] at hlt; simp at hlt)
      obtain ⟨c0, c1, c2, c3, e0, e1, e2, e3, hc⟩ := hI.at j (by omega)
      obtain ⟨d0, d1, d2, d3, k0, k1, k2, k3, hd⟩ := hI.at (j + 1) hlt
      have g0 := (hB.cell (p := ⟨b, off + j * 4, none⟩) hb).trans e0
      have g1 := (hB.cell (p := ⟨b, off + j * 4 + 1, none⟩) hb).trans e1
      have g2 := (hB.cell (p := ⟨b, off + j * 4 + 2, none⟩) hb).trans e2
      have g3 := (hB.cell (p := ⟨b, off + j * 4 + 3, none⟩) hb).trans e3
      have l0 := (hB.cell (p := ⟨b, off + (j + 1) * 4, none⟩) hb).trans k0
      have l1 := (hB.cell (p := ⟨b, off + (j + 1) * 4 + 1, none⟩) hb).trans k1
      have l2 := (hB.cell (p := ⟨b, off + (j + 1) * 4 + 2, none⟩) hb).trans k2
      have l3 := (hB.cell (p := ⟨b, off + (j + 1) * 4 + 3, none⟩) hb).trans k3
      have i1 : (0 : Int) ≤ (j : Int) := by omega
      have i2 : (j : Int) < (ts.length : Int) := by omega
      have i3 : (j : Int) + 1 < (ts.length : Int) := by omega
      have i4 : (0 : Int) ≤ (j : Int) + 1 := by omega
      have i5 : ((j : Int) + 1).toNat = j + 1 := by omega
      have HC := Lib.hid (compare_any w.heap.size ts[j] ts[j + 1] c0 c1 c2 c3 d0 d1 d2 d3)
      have HH := Lib.hid (HR.out j hlt)
      clear e0 e1 e2 e3 k0 k1 k2 k3
      have hBt := hB.size
      have HI2 := Lib.hid (hc.below hB.drew)
      have HI3 := Lib.hid (hd.below hB.drew)
      have HBS := Lib.hid hBt
      clear hBt hc hd
      have hw0 : IntKind.i64.wrap (j : Int) = (j : Int) := IntWalk.i64_in _ (by omega)
      go_wp2_with fail
      go_still_tail 9, (by kernel_rfl)
      change wpList _ _ _ _ _ wr.drew
      clear hw0
      have HCA := Lib.hid (HC.out wr.drew HI2.out HI3.out HBS.out)
      go_wp2_with (go_at_call 24; refine HCA.out.mono ?_)
      rintro e w2 ⟨rfl, hB2⟩
      have hB2' : Below w.heap.size w w2 := hB.drew.trans (hB2.mono HBS.out)
      rw [HH.out]
      clear hB2
      go_wp2_with fail
      go_roundw
      case rel => exact ⟨j + 1, by omega, by go_num, hB2'⟩
      case measure => simp [intOf]; omega
    · go_wp2
      go_ret
      exact ⟨rfl, hB⟩

/-- The value is a slice of the strings. -/
def StrV (w : World) (v : Value) (l : List ByteArray) : Prop := ∃ (a : Option Addr) (cap : Nat), v = .slice a l.length cap ∧ l.length ≤ maxLen ∧
  (l ≠ [] → ∃ b off, a = some ⟨b, off, none⟩ ∧ b < w.heap.size ∧ ∀ i (h : i < l.length), w.cell? ⟨b, off + i, none⟩ = some (.string l[i]))
theorem StrV.grow {w w' : World} {v : Value} {l : List ByteArray} (h : StrV w v l) (hb : Below w.heap.size w w') : StrV w' v l := by
  obtain ⟨a, cap, hv, hl, hr⟩ := h
  refine ⟨a, cap, hv, hl, fun hne => ?_⟩
  obtain ⟨b, off, ha, hbl, hi⟩ := hr hne
  have := hb.size
  exact ⟨b, off, ha, by omega, fun i h => (hb.cell (p := ⟨b, off + i, none⟩) hbl).trans (hi i h)⟩

set_option maxRecDepth 100000 in
set_option maxHeartbeats 2000000 in
theorem sameTexts_true (l : List ByteArray) (v v' : Value) (w : World) (hv : StrV w v l) (hv' : StrV w v' l) :
    Calls Tryz.prog 16 #[v, v'] w fun e w' => e = .returned (.bool true) ∧ Below w.heap.size w w' := by
  obtain ⟨a, cap, rfl, hl, hs⟩ := hv
  obtain ⟨a', cap', rfl, _, hs'⟩ := hv'
  unfold maxLen at hl
  have HS := Lib.hid hs; clear hs
  have HS' := Lib.hid hs'; clear hs'
  go_enter Tryz.func16, Tryz.ntmps16
  go_wp2_with fail
  go_loopw [5] (fun i wr => ∃ j : Nat, j ≤ l.length ∧ i = .int .i64 j ∧ Below w.heap.size w wr) (fun i _ => l.length - (intOf i).toNat)
  case atStart => exact ⟨0, by omega, by go_num, Below.refl _ _⟩
  case round =>
    obtain ⟨j, hj, rfl, hB⟩ := hrel
    by_cases hlt : j < l.length
    · obtain ⟨b, off, rfl, hb, hI⟩ := HS.out (by intro e; rw [e] at hlt; simp at hlt)
      obtain ⟨b', off', rfl, hb', hI'⟩ := HS'.out (by intro e; rw [e] at hlt; simp at hlt)
      have g0 := (hB.cell (p := ⟨b, off + j, none⟩) hb).trans (hI j hlt)
      have g1 := (hB.cell (p := ⟨b', off' + j, none⟩) hb').trans (hI' j hlt)
      have i1 : (0 : Int) ≤ (j : Int) := by omega
      have i2 : (j : Int) < (l.length : Int) := by omega
      have HB := Lib.hid hB
      clear hI hI' hB
      go_wp2_with fail
      go_quiet (fail)
      go_wp2_with fail
      go_roundw
      case rel =>
        refine ⟨j + 1, by omega, by go_num, ?_⟩
        have h := HB.out
        exact ⟨h.os, h.tape, h.output, h.size, h.block⟩
      case measure => simp [intOf]; omega
    · go_wp2
      go_ret
      exact ⟨rfl, hB⟩
end Go.Proofs.YtikofhldihimaaaGreatDoor
