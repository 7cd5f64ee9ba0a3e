/- An argument of type []api.Term, opened and shut. -/
import Derived.Test.YtkjoimedalhnoaaGreatDoorOp
namespace Go.Proofs.YtkjoimedalhnoaaGreatDoor
open Go.RowKit Go.ChangeShapes

set_option maxRecDepth 100000 in
theorem open_terms {H : Type} {enc : TypeId × Value → H} {w : World} {r : Reach} {b : Nat} {sp : Nat → Bool} {held : Bool} {v : Value} {d : DataW H} {ps : List MemPlace} (hv : Value.okWide Tryz.prog w r b 22 v)
    (h : DataW.Trod enc Tryz.prog w 0 sp held 22 v d ps) : ∃ (a : Option Addr) (us : List Tm) (cap : Nat), v = .slice a us.length cap ∧ us.length ≤ cap ∧ us.length ≤ maxLen ∧
      (us ≠ [] → ∃ b off, a = some ⟨b, off, none⟩ ∧ b < w.heap.size ∧ IsTms w.heap.size w b off us) := by
  obtain ⟨a0, len0, cap0, rfl⟩ := Go.WideShapes.okWide_slice Tryz.underlying22 hv
  obtain ⟨n, hn⟩ := h
  rcases DataW.trod_slice Tryz.underlying22 hn with ⟨e3, _⟩ | ⟨a, len, cap, elems, rest, n', rfl, e3, _, hb, hlc, hcm, hel, hat, _, _⟩
  · have e : Value.slice a0 len0 cap0 = .slice none 0 0 := by simpa [Value.cells] using e3
    exact ⟨none, [], 0, e, Nat.le_refl _, by unfold maxLen; simp, fun h => absurd rfl h⟩
  · have e : Value.slice a0 len0 cap0 = .slice (some a) len cap := by simpa [Value.cells] using e3
    rw [e]
    have each : ∀ i, i < len → a.spot = none ∧ a.block < w.heap.size ∧ ∃ c0 c1 c2 c3 t, w.cell? ⟨a.block, a.off + i * 4, none⟩ = some c0 ∧ w.cell? ⟨a.block, a.off + i * 4 + 1, none⟩ = some c1 ∧ w.cell? ⟨a.block, a.off + i * 4 + 2, none⟩ = some c2 ∧
        w.cell? ⟨a.block, a.off + i * 4 + 3, none⟩ = some c3 ∧ IsTm w.heap.size w c0 c1 c2 c3 t := by
      intro i hi
      have h1 := hat i hi
      have h0 := hat 0 (by omega)
      rw [show Tryz.prog.cellsOf 24 = 4 by kernel_rfl] at h1 h0
      rw [List.getElem?_eq_getElem (by omega)] at h1 h0
      obtain ⟨cs0, hc0, _⟩ := Option.bind_eq_some_iff.1 h0
      obtain ⟨cs1, hc1, ht1⟩ := Option.bind_eq_some_iff.1 h1
      obtain ⟨c0, c1, c2, c3, t, rfl, hi1⟩ := isTm_of_trod n' _ _ ht1
      obtain ⟨_, hl0, hcell0⟩ := World.cells?_some hc0
      obtain ⟨_, hl1, hcell1⟩ := World.cells?_some hc1
      have hsp : a.spot = none := by
        have := hcell0 0 (by omega)
        rw [List.getElem?_eq_getElem (by omega)] at this
        have := cell_spot this
        simpa [Addr.add] using this
      have hblk : a.block < w.heap.size := by
        have := World.cells?_block hc0 (by omega)
        rwa [addr_add _ _ hsp] at this
      rw [addr_add _ _ hsp] at hcell1
      refine ⟨hsp, hblk, c0, c1, c2, c3, t, ?_, ?_, ?_, ?_, hi1⟩
      · simpa [Addr.add] using hcell1 0 (by omega)
      · simpa [Addr.add] using hcell1 1 (by omega)
      · simpa [Addr.add] using hcell1 2 (by omega)
      · simpa [Addr.add] using hcell1 3 (by omega)
    obtain ⟨ts, htl, hts⟩ := tms_of (fun i hi => (each i hi).2.2) len (Nat.le_refl _)
    subst htl
    refine ⟨some a, ts, cap, rfl, by omega, by omega, fun hne => ?_⟩
    have hpos : 0 < ts.length := by cases ts with
      | nil => exact absurd rfl hne
      | cons _ _ => simp
    obtain ⟨hsp, hblk, _⟩ := each 0 hpos
    obtain ⟨b, o, sp'⟩ := a
    simp only at hsp
    subst hsp
    refine ⟨b, o, rfl, hblk, ?_⟩
    simpa using hts
set_option maxRecDepth 100000 in
theorem shut_terms {H : Type} {enc : TypeId × Value → H} {W W' : World} {sp : Nat → Bool} {v : Value} {d : DataW H} {ps : List MemPlace} (h : DataW.Trod enc Tryz.prog W 0 (fun _ => true) true 22 v d ps) (hb : Below W.heap.size W W')
    (hs : ∀ p ∈ ps, sp p.block = true) : DataW.Trod enc Tryz.prog W' 0 sp true 22 v d ps := by
  have hlt : ∀ p ∈ ps, p.block < W.heap.size := by
    obtain ⟨n, hn⟩ := h
    exact DataW.trod_lt n _ _ _ hn
  exact WideElems.Trod_stays (by kernel_rfl) (by kernel_rfl) (of_decide_eq_true (by kernel_rfl)) h (fun p hp => hb.same (hlt p hp)) hs
end Go.Proofs.YtkjoimedalhnoaaGreatDoor
