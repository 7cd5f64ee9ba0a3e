/- An argument of type api.Term, opened: what the row reads is a term that memory holds. -/
import Derived.Test.YtnobmffgchlijaaGreatDoorTm
import Derived.Test.YtnobmffgchlijaaGreatDoorChecked
import Derived.Lib.SmallJoins
import Derived.Deep.Slices
import Derived.OpenShut
import Derived.Below
import Derived.WideKeyArgs
import Derived.WideShapes
namespace Go.Proofs.YtnobmffgchlijaaGreatDoor
open Go.RowKit Go.ChangeShapes

theorem addr_add (a : Addr) (n : Nat) (h : a.spot = none) : a.add n = ⟨a.block, a.off + n, none⟩ := by
  unfold Addr.add
  obtain ⟨b, o, s⟩ := a
  subst h
  by_cases hn : n = 0 <;> simp [hn]
theorem cell_spot {w : World} {a : Addr} {v : Value} (h : w.cell? a = some v) : a.spot = none := by
  unfold World.cell? at h
  cases hs : a.spot with
  | none => rfl
  | some s => simp [hs] at h; split at h <;> simp at h

/-- The elements of a slice of terms, from the last on. -/
theorem tms_of {w : World} {b off len : Nat} (hel : ∀ i, i < len → ∃ c0 c1 c2 c3 t, w.cell? ⟨b, off + i * 4, none⟩ = some c0 ∧ w.cell? ⟨b, off + i * 4 + 1, none⟩ = some c1 ∧ w.cell? ⟨b, off + i * 4 + 2, none⟩ = some c2 ∧ w.cell? ⟨b, off + i * 4 + 3, none⟩ = some c3 ∧ IsTm w.heap.size w c0 c1 c2 c3 t) :
    ∀ k, k ≤ len → ∃ ts : List Tm, ts.length = k ∧ IsTms w.heap.size w b (off + (len - k) * 4) ts := by
  intro k
  induction k with
  | zero => intro _; exact ⟨[], rfl, by simp only [IsTms]⟩
  | succ k ih =>
    intro hk
    obtain ⟨ts, hl, ht⟩ := ih (by omega)
    obtain ⟨c0, c1, c2, c3, t, h0, h1, h2, h3, hi⟩ := hel (len - (k + 1)) (by omega)
    refine ⟨t :: ts, by simp [hl], ?_⟩
    simp only [IsTms]
    refine ⟨c0, c1, c2, c3, h0, h1, h2, h3, hi, ?_⟩
    have e : off + (len - (k + 1)) * 4 + 4 = off + (len - k) * 4 := by omega
    rw [e]
    exact ht

set_option maxRecDepth 100000 in
theorem isTm_of_trod {H : Type} {enc : TypeId × Value → H} {w : World} {sp : Nat → Bool} {held : Bool} (n : Nat) : ∀ (cs : List Value) (x : DataW H × List MemPlace),
    DataW.trod enc Tryz.prog w 0 sp held n 32 cs = some x → ∃ c0 c1 c2 c3 t, cs = [c0, c1, c2, c3] ∧ IsTm w.heap.size w c0 c1 c2 c3 t := by
  induction n using Nat.strongRecOn with
  | ind n ih =>
    intro cs x h
    obtain ⟨xs, m, rfl, rfl, hl, hlen, hf⟩ := DataW.trod_struct Tryz.underlying32 h
    rw [show Tryz.prog.cellsOf 32 = 4 by kernel_rfl] at hl
    match cs, hl, xs, hlen with
    | [c0, c1, c2, c3], _, [y0, y1, y2, y3], _ =>
      have g0 : DataW.trod enc Tryz.prog w 0 sp held m 5 (List.take (Tryz.prog.cellsOf 5) (List.drop 0 [c0, c1, c2, c3])) = some y0 := hf 0 _ rfl
      have g1 : DataW.trod enc Tryz.prog w 0 sp held m 3 (List.take (Tryz.prog.cellsOf 3) (List.drop 1 [c0, c1, c2, c3])) = some y1 := hf 1 _ rfl
      have g2 : DataW.trod enc Tryz.prog w 0 sp held m 9 (List.take (Tryz.prog.cellsOf 9) (List.drop 2 [c0, c1, c2, c3])) = some y2 := hf 2 _ rfl
      have g3 : DataW.trod enc Tryz.prog w 0 sp held m 30 (List.take (Tryz.prog.cellsOf 30) (List.drop 3 [c0, c1, c2, c3])) = some y3 := hf 3 _ rfl
      simp only [show Tryz.prog.cellsOf 5 = 1 by kernel_rfl, show Tryz.prog.cellsOf 3 = 1 by kernel_rfl, show Tryz.prog.cellsOf 9 = 1 by kernel_rfl, show Tryz.prog.cellsOf 30 = 1 by kernel_rfl, List.drop, List.take] at g0 g1 g2 g3
      obtain ⟨k, e0, _, hk⟩ := DataW.trod_int Tryz.underlying5 g0
      obtain ⟨v, e1, _, hv⟩ := DataW.trod_int Tryz.underlying3 g1
      obtain ⟨s, e2, _, hs⟩ := DataW.trod_string Tryz.underlying9 g2
      simp only [List.cons.injEq, and_true] at e0 e1 e2
      subst e0 e1 e2
      have hk' : 0 ≤ k ∧ k ≤ 255 := by
        unfold Lit.wf at hk
        simpa [Bool.and_eq_true, decide_eq_true_eq, IntKind.min, IntKind.max, IntKind.signed, IntKind.bits] using hk
      rcases DataW.trod_slice Tryz.underlying30 g3 with ⟨e3, _⟩ | ⟨a, len, cap, elems, rest, n', rfl, e3, _, hb, hlc, hcm, hel, hat, _, _⟩
      · simp only [List.cons.injEq, and_true] at e3
        subst e3
        refine ⟨_, _, _, _, .mk k v s [], rfl, ?_⟩
        unfold IsTm
        exact ⟨rfl, hk', rfl, hv, rfl, hs, none, 0, rfl, by simp, fun h => absurd rfl h⟩
      · simp only [List.cons.injEq, and_true] at e3
        subst e3
        have each : ∀ i, i < len → a.spot = none ∧ a.block < w.heap.size ∧ ∃ c0 c1 c2 c3 t, w.cell? ⟨a.block, a.off + i * 4, none⟩ = some c0 ∧ w.cell? ⟨a.block, a.off + i * 4 + 1, none⟩ = some c1 ∧ w.cell? ⟨a.block, a.off + i * 4 + 2, none⟩ = some c2 ∧
            w.cell? ⟨a.block, a.off + i * 4 + 3, none⟩ = some c3 ∧ IsTm w.heap.size w c0 c1 c2 c3 t := by
          intro i hi
          have h1 := hat i hi
          have h0 := hat 0 (by omega)
          rw [show Tryz.prog.cellsOf 32 = 4 by kernel_rfl] at h1 h0
          rw [List.getElem?_eq_getElem (by omega)] at h1 h0
          obtain ⟨cs0, hc0, _⟩ := Option.bind_eq_some_iff.1 h0
          obtain ⟨cs1, hc1, ht1⟩ := Option.bind_eq_some_iff.1 h1
          obtain ⟨c0, c1, c2, c3, t, rfl, hi1⟩ := ih n' (by omega) _ _ ht1
          obtain ⟨_, hl0, hcell0⟩ := World.cells?_some hc0
          obtain ⟨_, hl1, hcell1⟩ := World.cells?_some hc1
          have hsp : a.spot = none := by
            have := hcell0 0 (by omega)
            rw [List.getElem?_eq_getElem (by omega)] at this
            have := cell_spot this
            simpa [Addr.add] using this
          have hblk : a.block < w.heap.size := by
            have := World.cells?_block hc0 (by omega)
            rwa [addr_add _ _ hsp] at this
          rw [addr_add _ _ hsp] at hcell1
          refine ⟨hsp, hblk, c0, c1, c2, c3, t, ?_, ?_, ?_, ?_, hi1⟩
          · simpa [Addr.add] using hcell1 0 (by omega)
          · simpa [Addr.add] using hcell1 1 (by omega)
          · simpa [Addr.add] using hcell1 2 (by omega)
          · simpa [Addr.add] using hcell1 3 (by omega)
        obtain ⟨ts, htl, hts⟩ := tms_of (fun i hi => (each i hi).2.2) len (Nat.le_refl _)
        subst htl
        refine ⟨_, _, _, _, .mk k v s ts, rfl, ?_⟩
        unfold IsTm
        refine ⟨rfl, hk', rfl, hv, rfl, hs, some a, cap, rfl, by omega, fun hne => ?_⟩
        have hpos : 0 < ts.length := by cases ts with
          | nil => exact absurd rfl hne
          | cons _ _ => simp
        obtain ⟨hsp, hblk, _⟩ := each 0 hpos
        obtain ⟨b, o, sp'⟩ := a
        simp only at hsp
        subst hsp
        refine ⟨b, o, rfl, hblk, ?_⟩
        simpa using hts

set_option maxRecDepth 100000 in
/-- An argument of type api.Term is four cells that hold a term. -/
theorem open_term {H : Type} {enc : TypeId × Value → H} {w : World} {r : Reach} {b : Nat} {sp : Nat → Bool} {held : Bool} {v : Value} {d : DataW H} {ps : List MemPlace} (hv : Value.okWide Tryz.prog w r b 32 v)
    (h : DataW.Trod enc Tryz.prog w 0 sp held 32 v d ps) : ∃ c0 c1 c2 c3 t, v = .agg #[c0, c1, c2, c3] ∧ IsTm w.heap.size w c0 c1 c2 c3 t := by
  obtain ⟨cs, rfl, _⟩ := Go.WideShapes.okWide_struct Tryz.underlying32 hv
  obtain ⟨n, hn⟩ := h
  obtain ⟨c0, c1, c2, c3, t, hcs, ht⟩ := isTm_of_trod n _ _ hn
  refine ⟨c0, c1, c2, c3, t, ?_, ht⟩
  have e : cs.toList = [c0, c1, c2, c3] := hcs
  rw [show cs = #[c0, c1, c2, c3] from Array.toList_inj.1 e]
set_option maxRecDepth 100000 in
/-- It reads behind a call that only adds to memory as it did. -/
theorem shut_term {H : Type} {enc : TypeId × Value → H} {W W' : World} {sp : Nat → Bool} {v : Value} {d : DataW H} {ps : List MemPlace} (h : DataW.Trod enc Tryz.prog W 0 (fun _ => true) true 32 v d ps) (hb : Below W.heap.size W W')
    (hs : ∀ p ∈ ps, sp p.block = true) : DataW.Trod enc Tryz.prog W' 0 sp true 32 v d ps := by
  have hlt : ∀ p ∈ ps, p.block < W.heap.size := by
    obtain ⟨n, hn⟩ := h
    exact DataW.trod_lt n _ _ _ hn
  exact WideElems.Trod_stays (by kernel_rfl) (by kernel_rfl) (of_decide_eq_true (by kernel_rfl)) h (fun p hp => hb.same (hlt p hp)) hs
end Go.Proofs.YtnobmffgchlijaaGreatDoor
