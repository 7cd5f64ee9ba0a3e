/- An argument of type api.Term, opened: its weight is at most the bulk of what is read. -/
import Derived.Test.YtikofhldihimaaaGreatDoorOp
import Derived.Test.YtikofhldihimaaaGreatDoorTl
import Derived.Test.YtikofhldihimaaaGreatDoorRows
namespace Go.Proofs.YtikofhldihimaaaGreatDoor
open Go.RowKit Go.ChangeShapes

theorem tmw_of {H : Type} {w : World} {b off : Nat} (elems : List (DataW H × List MemPlace)) (hel : ∀ i, (hi : i < elems.length) → ∃ c0 c1 c2 c3 t, w.cell? ⟨b, off + i * 4, none⟩ = some c0 ∧ w.cell? ⟨b, off + i * 4 + 1, none⟩ = some c1 ∧ w.cell? ⟨b, off + i * 4 + 2, none⟩ = some c2 ∧ w.cell? ⟨b, off + i * 4 + 3, none⟩ = some c3 ∧ IsTm w.heap.size w c0 c1 c2 c3 t ∧ t.wt ≤ Rows.uptoBulk elems[i].1) :
    ∀ k, k ≤ elems.length → ∃ ts : List Tm, ts.length = k ∧ IsTms w.heap.size w b (off + (elems.length - k) * 4) ts ∧ Tm.wtL ts ≤ Rows.uptoBulkAll ((elems.drop (elems.length - k)).map (·.1)) := by
  intro k
  induction k with
  | zero => intro _; exact ⟨[], rfl, by simp only [IsTms], Nat.zero_le _⟩
  | succ k ih =>
    intro hk
    obtain ⟨ts, hl, ht, hw⟩ := ih (by omega)
    obtain ⟨c0, c1, c2, c3, t, h0, h1, h2, h3, hi, hwt⟩ := hel (elems.length - (k + 1)) (by omega)
    refine ⟨t :: ts, by simp [hl], ?_, ?_⟩
    · simp only [IsTms]
      refine ⟨c0, c1, c2, c3, h0, h1, h2, h3, hi, ?_⟩
      have e : off + (elems.length - (k + 1)) * 4 + 4 = off + (elems.length - k) * 4 := by omega
      rw [e]
      exact ht
    · rw [List.drop_eq_getElem_cons (by omega), List.map_cons]
      have e : elems.length - (k + 1) + 1 = elems.length - k := by omega
      rw [e]
      simp only [Tm.wtL, Rows.uptoBulkAll]
      omega

set_option maxRecDepth 100000 in
theorem isTmw_of_trod {H : Type} {enc : TypeId × Value → H} {w : World} {sp : Nat → Bool} {held : Bool} (n : Nat) : ∀ (cs : List Value) (x : DataW H × List MemPlace),
    DataW.trod enc Tryz.prog w 0 sp held n 24 cs = some x → ∃ c0 c1 c2 c3 t, cs = [c0, c1, c2, c3] ∧ IsTm w.heap.size w c0 c1 c2 c3 t ∧ t.wt ≤ Rows.uptoBulk x.1 := by
  induction n using Nat.strongRecOn with
  | ind n ih =>
    intro cs x h
    obtain ⟨xs, m, rfl, rfl, hl, hlen, hf⟩ := DataW.trod_struct Tryz.underlying24 h
    rw [show Tryz.prog.cellsOf 24 = 4 by kernel_rfl] at hl
    match cs, hl, xs, hlen with
    | [c0, c1, c2, c3], _, [y0, y1, y2, y3], _ =>
      have g0 : DataW.trod enc Tryz.prog w 0 sp held m 5 (List.take (Tryz.prog.cellsOf 5) (List.drop 0 [c0, c1, c2, c3])) = some y0 := hf 0 _ rfl
      have g1 : DataW.trod enc Tryz.prog w 0 sp held m 3 (List.take (Tryz.prog.cellsOf 3) (List.drop 1 [c0, c1, c2, c3])) = some y1 := hf 1 _ rfl
      have g2 : DataW.trod enc Tryz.prog w 0 sp held m 9 (List.take (Tryz.prog.cellsOf 9) (List.drop 2 [c0, c1, c2, c3])) = some y2 := hf 2 _ rfl
      have g3 : DataW.trod enc Tryz.prog w 0 sp held m 22 (List.take (Tryz.prog.cellsOf 22) (List.drop 3 [c0, c1, c2, c3])) = some y3 := hf 3 _ rfl
      simp only [show Tryz.prog.cellsOf 5 = 1 by kernel_rfl, show Tryz.prog.cellsOf 3 = 1 by kernel_rfl, show Tryz.prog.cellsOf 9 = 1 by kernel_rfl, show Tryz.prog.cellsOf 22 = 1 by kernel_rfl, List.drop, List.take] at g0 g1 g2 g3
      obtain ⟨k, e0, _, hk⟩ := DataW.trod_int Tryz.underlying5 g0
      obtain ⟨v, e1, _, hv⟩ := DataW.trod_int Tryz.underlying3 g1
      obtain ⟨s, e2, e2x, hs⟩ := DataW.trod_string Tryz.underlying9 g2
      simp only [List.cons.injEq, and_true] at e0 e1 e2
      subst e0 e1 e2
      have hk' : 0 ≤ k ∧ k ≤ 255 := by
        unfold Lit.wf at hk
        simpa [Bool.and_eq_true, decide_eq_true_eq, IntKind.min, IntKind.max, IntKind.signed, IntKind.bits] using hk
      have hy2 : Rows.uptoBulk y2.1 = s.size + 1 := by
        rw [e2x]
        show s.data.toList.length + 1 = _
        rw [size_data]
      rcases DataW.trod_slice Tryz.underlying22 g3 with ⟨e3, _⟩ | ⟨a, len, cap, elems, rest, n', rfl, e3, hx3, hb, hlc, hcm, hel, hat, _, _⟩
      · simp only [List.cons.injEq, and_true] at e3
        subst e3
        refine ⟨_, _, _, _, .mk k v s [], rfl, ?_, ?_⟩
        · unfold IsTm
          exact ⟨rfl, hk', rfl, hv, rfl, hs, none, 0, rfl, by simp, fun h => absurd rfl h⟩
        · simp only [Tm.wt, Tm.wtL, List.map_cons, List.map_nil, Rows.uptoBulk, Rows.uptoBulkAll]
          omega
      · simp only [List.cons.injEq, and_true] at e3
        subst e3
        have each : ∀ i, (hi : i < elems.length) → a.spot = none ∧ a.block < w.heap.size ∧ ∃ c0 c1 c2 c3 t, w.cell? ⟨a.block, a.off + i * 4, none⟩ = some c0 ∧ w.cell? ⟨a.block, a.off + i * 4 + 1, none⟩ = some c1 ∧ w.cell? ⟨a.block, a.off + i * 4 + 2, none⟩ = some c2 ∧
            w.cell? ⟨a.block, a.off + i * 4 + 3, none⟩ = some c3 ∧ IsTm w.heap.size w c0 c1 c2 c3 t ∧ t.wt ≤ Rows.uptoBulk elems[i].1 := by
          intro i hi
          have h1 := hat i (by omega)
          have h0 := hat 0 (by omega)
          rw [show Tryz.prog.cellsOf 24 = 4 by kernel_rfl] at h1 h0
          rw [List.getElem?_eq_getElem (by omega)] at h1 h0
          obtain ⟨cs0, hc0, _⟩ := Option.bind_eq_some_iff.1 h0
          obtain ⟨cs1, hc1, ht1⟩ := Option.bind_eq_some_iff.1 h1
          obtain ⟨c0, c1, c2, c3, t, rfl, hi1, hwt⟩ := ih n' (by omega) _ _ ht1
          obtain ⟨_, hl0, hcell0⟩ := World.cells?_some hc0
          obtain ⟨_, hl1, hcell1⟩ := World.cells?_some hc1
          have hsp : a.spot = none := by
            have := hcell0 0 (by omega)
            rw [List.getElem?_eq_getElem (by omega)] at this
            have := cell_spot this
            simpa [Addr.add] using this
          have hblk : a.block < w.heap.size := by
            have := World.cells?_block hc0 (by omega)
            rwa [addr_add _ _ hsp] at this
          rw [addr_add _ _ hsp] at hcell1
          refine ⟨hsp, hblk, c0, c1, c2, c3, t, ?_, ?_, ?_, ?_, hi1, hwt⟩
          · simpa [Addr.add] using hcell1 0 (by omega)
          · simpa [Addr.add] using hcell1 1 (by omega)
          · simpa [Addr.add] using hcell1 2 (by omega)
          · simpa [Addr.add] using hcell1 3 (by omega)
        obtain ⟨ts, htl, hts, hwl⟩ := tmw_of elems (fun i hi => (each i hi).2.2) elems.length (Nat.le_refl _)
        rw [Nat.sub_self, List.drop_zero] at hwl
        rw [hel] at htl
        subst htl
        refine ⟨_, _, _, _, .mk k v s ts, rfl, ?_, ?_⟩
        rotate_left
        · have hy3 : Rows.uptoBulk y3.1 = Rows.uptoBulkAll (elems.map (·.1)) + Rows.uptoBulkAll (rest.map (·.1)) + 1 := by
            rw [show y3.1 = .slice (elems.map (·.1)) (rest.map (·.1)) from congrArg Prod.fst hx3]
            rfl
          simp only [Tm.wt, List.map_cons, List.map_nil, Rows.uptoBulk, Rows.uptoBulkAll]
          omega
        unfold IsTm
        refine ⟨rfl, hk', rfl, hv, rfl, hs, some a, cap, rfl, by omega, fun hne => ?_⟩
        have hpos : 0 < ts.length := by cases ts with
          | nil => exact absurd rfl hne
          | cons _ _ => simp
        obtain ⟨hsp, hblk, _⟩ := each 0 (by omega)
        obtain ⟨b, o, sp'⟩ := a
        simp only at hsp
        subst hsp
        refine ⟨b, o, rfl, hblk, ?_⟩
        simpa using hts

set_option maxRecDepth 100000 in
/-- An argument of type api.Term is four cells that hold a term no heavier than what is read. -/
theorem open_termw {H : Type} {enc : TypeId × Value → H} {w : World} {r : Reach} {b : Nat} {sp : Nat → Bool} {held : Bool} {v : Value} {d : DataW H} {ps : List MemPlace} (hv : Value.okWide Tryz.prog w r b 24 v)
    (h : DataW.Trod enc Tryz.prog w 0 sp held 24 v d ps) : ∃ c0 c1 c2 c3 t, v = .agg #[c0, c1, c2, c3] ∧ IsTm w.heap.size w c0 c1 c2 c3 t ∧ t.wt ≤ Rows.uptoBulk d := by
  obtain ⟨cs, rfl, _⟩ := Go.WideShapes.okWide_struct Tryz.underlying24 hv
  obtain ⟨n, hn⟩ := h
  obtain ⟨c0, c1, c2, c3, t, hcs, ht, hw⟩ := isTmw_of_trod n _ _ hn
  refine ⟨c0, c1, c2, c3, t, ?_, ht, hw⟩
  have e : cs.toList = [c0, c1, c2, c3] := hcs
  rw [show cs = #[c0, c1, c2, c3] from Array.toList_inj.1 e]
end Go.Proofs.YtikofhldihimaaaGreatDoor
