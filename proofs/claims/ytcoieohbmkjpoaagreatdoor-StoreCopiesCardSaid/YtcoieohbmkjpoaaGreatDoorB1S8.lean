/- Arguments of the types api.Atom and []api.Atom, opened and shut. -/
import Derived.Test.YtcoieohbmkjpoaaGreatDoorB1S1
import Derived.Test.YtcoieohbmkjpoaaGreatDoorB1g
namespace Go.Proofs.YtcoieohbmkjpoaaGreatDoor
open Go.RowKit Go.ChangeShapes Go.Shelf

theorem ats_of {w : World} {s : ByteArray} {a : Option Addr} {us : List Tm} {cap : Nat} (hs : s.size ≤ maxLen) (hl : us.length ≤ maxLen) (h : us ≠ [] → ∃ b off, a = some ⟨b, off, none⟩ ∧ b < w.heap.size ∧ IsTms w.heap.size w b off us) :
    AtS (fun b => b < w.heap.size) w (.string s) (.slice a us.length cap) (s, us) :=
  ⟨rfl, hs, a, cap, rfl, hl, fun hne => by obtain ⟨b, off, h1, h2, h3⟩ := h hne; exact ⟨b, off, h1, h2, isTms_S h3⟩⟩
set_option maxRecDepth 100000 in
theorem isAt_of_trod {H : Type} {enc : TypeId × Value → H} {w : World} {sp : Nat → Bool} {held : Bool} (n : Nat) (cells : List Value) (x : DataW H × List MemPlace)
    (h : DataW.trod enc Tryz.prog w 0 sp held n 24 cells = some x) : ∃ (v0 v1 : Value) (y : Ato), cells = [v0, v1] ∧ AtS (fun b => b < w.heap.size) w v0 v1 y := by
  obtain ⟨xs, m, _, _, hl, hlen, hf⟩ := DataW.trod_struct Tryz.underlying24 h
  rw [show Tryz.prog.cellsOf 24 = 2 by kernel_rfl] at hl
  match cells, hl, xs, hlen with
  | [c0, c1], _, [y0, y1], _ =>
    have g0 : DataW.trod enc Tryz.prog w 0 sp held m 9 (List.take (Tryz.prog.cellsOf 9) (List.drop 0 [c0, c1])) = some y0 := hf 0 _ rfl
    have g1 : DataW.trod enc Tryz.prog w 0 sp held m 22 (List.take (Tryz.prog.cellsOf 22) (List.drop 1 [c0, c1])) = some y1 := hf 1 _ rfl
    simp only [show Tryz.prog.cellsOf 9 = 1 by kernel_rfl, show Tryz.prog.cellsOf 22 = 1 by kernel_rfl, List.drop, List.take] at g0 g1
    obtain ⟨s, e2, _, hs⟩ := DataW.trod_string Tryz.underlying9 g0
    simp only [List.cons.injEq, and_true] at e2
    subst e2
    have hsl : ∃ a l c, c1 = Value.slice a l c := by
      rcases DataW.trod_slice Tryz.underlying22 g1 with ⟨e3, _⟩ | ⟨a, len, cap, elems, rest, n', _, e3, _⟩
      · exact ⟨_, _, _, List.cons.inj e3 |>.1⟩
      · exact ⟨_, _, _, List.cons.inj e3 |>.1⟩
    have hsl2 := hsl
    obtain ⟨a1, l1, k1, rfl⟩ := hsl2
    obtain ⟨a, us, cap, e, h1, h2, h3⟩ := open_terms_of (enc := enc) (sp := sp) (held := held) hsl ⟨m, g1⟩
    rw [e]
    exact ⟨_, _, (s, us), rfl, ats_of hs h2 h3⟩
set_option maxRecDepth 100000 in
theorem open_ato {H : Type} {enc : TypeId × Value → H} {w : World} {r : Reach} {b : Nat} {sp : Nat → Bool} {held : Bool} {v : Value} {d : DataW H} {ps : List MemPlace} (hv : Value.okWide Tryz.prog w r b 24 v)
    (h : DataW.Trod enc Tryz.prog w 0 sp held 24 v d ps) : ∃ (v0 v1 : Value) (y : Ato), v = .agg #[v0, v1] ∧ AtS (fun b => b < w.heap.size) w v0 v1 y := by
  obtain ⟨s, a, us, cap, e, h1, _, h2, h3⟩ := open_atom hv h
  exact ⟨_, _, (s, us), e, ats_of h1 h2 h3⟩
theorem atos_of {Q : Nat → Ato → Prop} {len : Nat} (each : ∀ i, i < len → ∃ y, Q i y) : ∀ n, n ≤ len → ∃ L : List Ato, L.length = n ∧ ∀ i (h : i < L.length), Q i L[i]
  | 0, _ => ⟨[], rfl, fun i h => by simp at h⟩
  | n + 1, hn => by
    obtain ⟨L, hl, hq⟩ := atos_of each n (by omega)
    obtain ⟨y, hy⟩ := each n (by omega)
    refine ⟨L ++ [y], by simp [hl], fun i h => ?_⟩
    by_cases hi : i < L.length
    · rw [List.getElem_append_left hi]; exact hq i hi
    · have e : i = L.length := by simp at h; omega
      subst e
      rw [List.getElem_concat_length rfl, hl]
      exact hy
set_option maxRecDepth 100000 in
theorem open_atos {H : Type} {enc : TypeId × Value → H} {w : World} {r : Reach} {b : Nat} {sp : Nat → Bool} {held : Bool} {v : Value} {d : DataW H} {ps : List MemPlace} (hv : Value.okWide Tryz.prog w r b 26 v)
    (h : DataW.Trod enc Tryz.prog w 0 sp held 26 v d ps) : ∃ L : List Ato, RdL w v L := by
  obtain ⟨a0, len0, cap0, rfl⟩ := Go.WideShapes.okWide_slice Tryz.underlying26 hv
  obtain ⟨n, hn⟩ := h
  rcases DataW.trod_slice Tryz.underlying26 hn with ⟨e3, _⟩ | ⟨a, len, cap, elems, rest, n', rfl, e3, _, hb, hlc, hcm, hel, hat, _, _⟩
  · have e : Value.slice a0 len0 cap0 = .slice none 0 0 := by simpa [Value.cells] using e3
    rw [e]
    exact ⟨[], none, 0, rfl, Nat.zero_le _, fun i h => by simp at h⟩
  · have e : Value.slice a0 len0 cap0 = .slice (some a) len cap := by simpa [Value.cells] using e3
    rw [e]
    have each : ∀ i, i < len → ∃ y : Ato, a.spot = none ∧ ∃ v0 v1, w.cell? ⟨a.block, a.off + i * 2, none⟩ = some v0 ∧ w.cell? ⟨a.block, a.off + i * 2 + 1, none⟩ = some v1 ∧ AtS (fun b => b < w.heap.size) w v0 v1 y := by
      intro i hi
      have h1 := hat i hi
      have h0 := hat 0 (by omega)
      rw [show Tryz.prog.cellsOf 24 = 2 by kernel_rfl] at h1 h0
      rw [List.getElem?_eq_getElem (by omega)] at h1 h0
      obtain ⟨cs0, hc0, _⟩ := Option.bind_eq_some_iff.1 h0
      obtain ⟨cs1, hc1, ht1⟩ := Option.bind_eq_some_iff.1 h1
      obtain ⟨v0, v1, y, rfl, hy⟩ := isAt_of_trod n' _ _ ht1
      obtain ⟨_, hl0, hcell0⟩ := World.cells?_some hc0
      obtain ⟨_, hl1, hcell1⟩ := World.cells?_some hc1
      have hsp : a.spot = none := by
        have := hcell0 0 (by omega)
        rw [List.getElem?_eq_getElem (by omega)] at this
        have := cell_spot this
        simpa [Addr.add] using this
      rw [addr_add _ _ hsp] at hcell1
      refine ⟨y, hsp, v0, v1, ?_, ?_, hy⟩
      · simpa [Addr.add] using hcell1 0 (by omega)
      · simpa [Addr.add] using hcell1 1 (by omega)
    obtain ⟨L, hL, hq⟩ := atos_of each len (Nat.le_refl _)
    subst hL
    refine ⟨L, some a, cap, rfl, by omega, fun i hi => ?_⟩
    obtain ⟨hsp, v0, v1, h0, h1, h2⟩ := hq i hi
    obtain ⟨b, o, sp'⟩ := a
    simp only at hsp
    subst hsp
    exact ⟨b, o, v0, v1, rfl, h0, h1, h2⟩
set_option maxRecDepth 100000 in
theorem shut_atos {H : Type} {enc : TypeId × Value → H} {W W' : World} {sp : Nat → Bool} {v : Value} {d : DataW H} {ps : List MemPlace} (h : DataW.Trod enc Tryz.prog W 0 (fun _ => true) true 26 v d ps) (hb : Below W.heap.size W W')
    (hs : ∀ p ∈ ps, sp p.block = true) : DataW.Trod enc Tryz.prog W' 0 sp true 26 v d ps := by
  have hlt : ∀ p ∈ ps, p.block < W.heap.size := by
    obtain ⟨n, hn⟩ := h
    exact DataW.trod_lt n _ _ _ hn
  exact WideElems.Trod_stays (by kernel_rfl) (by kernel_rfl) (of_decide_eq_true (by kernel_rfl)) h (fun p hp => hb.same (hlt p hp)) hs
end Go.Proofs.YtcoieohbmkjpoaaGreatDoor
