/- An argument of type []lex.Token, opened and shut. -/
import Derived.Test.YtgepfenjbjlgpaaDoorJe
import Derived.Test.YtgepfenjbjlgpaaDoorChecked
import Derived.Lib.SmallJoins
import Derived.Deep.Slices
import Derived.OpenShut
import Derived.Below
import Derived.WideKeyArgs
import Derived.WideShapes
import Derived.SizedLaws
namespace Go.Proofs.YtgepfenjbjlgpaaDoor
open Go.RowKit Go.ChangeShapes

theorem addr_addZ (a : Addr) (n : Nat) (h : a.spot = none) : a.add n = ⟨a.block, a.off + n, none⟩ := by
  unfold Addr.add
  obtain ⟨b, o, s⟩ := a
  subst h
  by_cases hn : n = 0 <;> simp [hn]
theorem cell_spotZ {w : World} {a : Addr} {v : Value} (h : w.cell? a = some v) : a.spot = none := by
  unfold World.cell? at h
  cases hs : a.spot with
  | none => rfl
  | some s => simp [hs] at h; split at h <;> simp at h
theorem list_ofZ {P : Nat → Tz → Prop} : ∀ len : Nat, (∀ i, i < len → ∃ x, P i x) → ∃ l : List Tz, l.length = len ∧ ∀ (i : Nat) (x : Tz), l[i]? = some x → P i x
  | 0, _ => ⟨[], rfl, fun i x h => by simp at h⟩
  | n + 1, h => by
    obtain ⟨l, hl, hp⟩ := list_ofZ n (fun i hi => h i (by omega))
    obtain ⟨x, hx⟩ := h n (by omega)
    refine ⟨l ++ [x], by simp [hl], fun i y hy => ?_⟩
    by_cases hi : i < l.length
    · rw [List.getElem?_append_left hi] at hy; exact hp i y hy
    · rw [List.getElem?_append_right (by omega)] at hy
      have h0 : i - l.length = 0 := by
        apply Decidable.byContradiction; intro hn
        rw [List.getElem?_eq_none (by simp; omega)] at hy; cases hy
      rw [h0] at hy
      have e : i = n := by omega
      subst e
      obtain rfl : x = y := by simpa using hy
      exact hx
theorem weights_elem {H : Type} {P : Program} {e : TypeId} : ∀ {elems : List (DataW H)} {d : DataW H}, d ∈ elems → ∀ n ∈ d.weights P e, n ∈ DataW.weightsAll P e elems
  | x :: r, d, h, n, hn => by
    unfold DataW.weightsAll
    rcases List.mem_cons.1 h with h1 | h1
    · subst h1; exact List.mem_append_left _ hn
    · exact List.mem_append_right _ (weights_elem h1 n hn)

set_option maxRecDepth 100000 in
theorem tok_of_trod {H : Type} {enc : TypeId × Value → H} {w : World} {sp : Nat → Bool} {held : Bool} {n : Nat} {cs : List Value} {x : DataW H × List MemPlace}
    (h : DataW.trod enc Tryd.prog w 0 sp held n 25 cs = some x) : ∃ (k : Int) (s : ByteArray) (z : Int), cs = [.int .u8 k, .string s, .int .i64 z] ∧ 0 ≤ k ∧ k < 256 ∧ s.size ∈ x.1.weights Tryd.prog 25 := by
  obtain ⟨xs, m, rfl, rfl, hl, hlen, hf⟩ := DataW.trod_struct Tryd.underlying25 h
  rw [show Tryd.prog.cellsOf 25 = 3 by kernel_rfl] at hl
  match cs, hl, xs, hlen with
  | [c0, c1, c2], _, [y0, y1, y2], _ =>
    have g0 : DataW.trod enc Tryd.prog w 0 sp held m 23 (List.take (Tryd.prog.cellsOf 23) (List.drop 0 [c0, c1, c2])) = some y0 := hf 0 _ rfl
    have g1 : DataW.trod enc Tryd.prog w 0 sp held m 9 (List.take (Tryd.prog.cellsOf 9) (List.drop 1 [c0, c1, c2])) = some y1 := hf 1 _ rfl
    have g2 : DataW.trod enc Tryd.prog w 0 sp held m 3 (List.take (Tryd.prog.cellsOf 3) (List.drop 2 [c0, c1, c2])) = some y2 := hf 2 _ rfl
    simp only [show Tryd.prog.cellsOf 23 = 1 by kernel_rfl, show Tryd.prog.cellsOf 3 = 1 by kernel_rfl, show Tryd.prog.cellsOf 9 = 1 by kernel_rfl, List.drop, List.take] at g0 g1 g2
    obtain ⟨k, e0, _, hk⟩ := DataW.trod_int Tryd.underlying23 g0
    obtain ⟨s, e1, hy1, _⟩ := DataW.trod_string Tryd.underlying9 g1
    obtain ⟨z, e2, _, _⟩ := DataW.trod_int Tryd.underlying3 g2
    simp only [List.cons.injEq, and_true] at e0 e1 e2
    subst e0 e1 e2
    have hk' : 0 ≤ k ∧ k ≤ 255 := by
      unfold Lit.wf at hk
      simpa [Bool.and_eq_true, decide_eq_true_eq, IntKind.min, IntKind.max, IntKind.signed, IntKind.bits] using hk
    refine ⟨k, s, z, rfl, hk'.1, by omega, ?_⟩
    simp only [List.map_cons, List.map_nil]
    unfold DataW.weights
    rw [Tryd.underlying25]
    refine DataW.weights_mem_each (j := 1) rfl rfl _ ?_
    rw [hy1]
    unfold DataW.weights
    exact List.mem_singleton.2 (by rfl)

set_option maxRecDepth 100000 in
theorem open_toks {H : Type} {enc : TypeId × Value → H} {w : World} {r : Reach} {b : Nat} {sp : Nat → Bool} {held : Bool} {v : Value} {d : DataW H} {ps : List MemPlace} (hv : Value.okWide Tryd.prog w r b 22 v)
    (h : DataW.Trod enc Tryd.prog w 0 sp held 22 v d ps) (hw : ∀ n ∈ d.weights Tryd.prog 22, n ≤ reachBytes) :
    ∃ toks : List Tz, IsToksZ w.heap.size w v toks ∧ KOz toks ∧ (∀ x ∈ toks, x.t.size ≤ 140737488351232) ∧ toks.length ≤ 4611686018427387904 := by
  obtain ⟨a0, len0, cap0, rfl⟩ := Go.WideShapes.okWide_slice Tryd.underlying22 hv
  obtain ⟨n, hn⟩ := h
  rcases DataW.trod_slice Tryd.underlying22 hn with ⟨e3, _⟩ | ⟨a, len, cap, elems, rest, n', rfl, e3, hx, hb, hlc, hcm, hel, hat, _, _⟩
  · have e : Value.slice a0 len0 cap0 = .slice none 0 0 := by simpa [Value.cells] using e3
    rw [e]
    exact ⟨[], ⟨none, 0, rfl, fun h => absurd rfl h⟩, fun x hx => by simp at hx, fun x hx => by simp at hx, by simp⟩
  · have e : Value.slice a0 len0 cap0 = .slice (some a) len cap := by simpa [Value.cells] using e3
    rw [e]
    have hd : d = .slice (elems.map (·.1)) (rest.map (·.1)) := congrArg Prod.fst hx
    subst hd
    unfold DataW.weights at hw
    rw [Tryd.underlying22] at hw
    simp only [] at hw
    have hbytes : Tryd.prog.bytesOf 25 = 32 := by kernel_rfl
    rw [hbytes] at hw
    have hlen : len ≤ 4398046510976 := by
      have h1 := hw _ (List.mem_cons_self ..)
      rw [List.length_map, List.length_map, hel] at h1
      unfold reachBytes at h1
      omega
    have each : ∀ i, i < len → a.spot = none ∧ a.block < w.heap.size ∧ ∃ x : Tz, w.cell? ⟨a.block, a.off + i * 3, none⟩ = some (.int .u8 x.k) ∧ w.cell? ⟨a.block, a.off + i * 3 + 1, none⟩ = some (.string x.t) ∧ w.cell? ⟨a.block, a.off + i * 3 + 2, none⟩ = some (.int .i64 x.a) ∧
        (0 ≤ x.k ∧ x.k < 256) ∧ x.t.size ≤ 140737488351232 := by
      intro i hi
      have h1 := hat i hi
      have h0 := hat 0 (by omega)
      rw [show Tryd.prog.cellsOf 25 = 3 by kernel_rfl] at h1 h0
      have hie : i < elems.length := by omega
      rw [List.getElem?_eq_getElem hie] at h1
      rw [List.getElem?_eq_getElem (by omega)] at h0
      obtain ⟨cs0, hc0, _⟩ := Option.bind_eq_some_iff.1 h0
      obtain ⟨cs1, hc1, ht1⟩ := Option.bind_eq_some_iff.1 h1
      obtain ⟨k, s, z, rfl, hk0, hk1, hwt⟩ := tok_of_trod ht1
      obtain ⟨_, hl0, hcell0⟩ := World.cells?_some hc0
      obtain ⟨_, hl1, hcell1⟩ := World.cells?_some hc1
      have hsp : a.spot = none := by
        have := hcell0 0 (by omega)
        rw [List.getElem?_eq_getElem (by omega)] at this
        have := cell_spotZ this
        simpa [Addr.add] using this
      have hblk : a.block < w.heap.size := by
        have := World.cells?_block hc0 (by omega)
        rwa [addr_addZ _ _ hsp] at this
      rw [addr_addZ _ _ hsp] at hcell1
      refine ⟨hsp, hblk, ⟨k, s, z⟩, ?_, ?_, ?_, ⟨hk0, hk1⟩, ?_⟩
      · simpa [Addr.add] using hcell1 0 (by omega)
      · simpa [Addr.add] using hcell1 1 (by omega)
      · simpa [Addr.add] using hcell1 2 (by omega)
      · have hm : elems[i].1 ∈ elems.map (·.1) := List.mem_map.2 ⟨_, List.getElem_mem hie, rfl⟩
        have h2 := hw s.size (List.mem_cons_of_mem _ (List.mem_append_left _ (weights_elem hm _ hwt)))
        unfold reachBytes at h2
        omega
    obtain ⟨toks, htl, hts⟩ := list_ofZ len (fun i hi => (each i hi).2.2)
    subst htl
    refine ⟨toks, ⟨some a, cap, rfl, fun hne => ?_⟩, fun x hx => ?_, fun x hx => ?_, by omega⟩
    · have hpos : 0 < toks.length := by cases toks with
        | nil => exact absurd rfl hne
        | cons _ _ => simp
      obtain ⟨hsp, hblk, _⟩ := each 0 hpos
      obtain ⟨b, o, sp'⟩ := a
      simp only at hsp
      subst hsp
      exact ⟨b, o, rfl, hblk, fun i x hx => ⟨(hts i x hx).1, (hts i x hx).2.1, (hts i x hx).2.2.1⟩⟩
    · obtain ⟨i, hi⟩ := List.getElem?_of_mem hx
      exact (hts i x hi).2.2.2.1
    · obtain ⟨i, hi⟩ := List.getElem?_of_mem hx
      exact (hts i x hi).2.2.2.2
set_option maxRecDepth 100000 in
theorem shut_toks {H : Type} {enc : TypeId × Value → H} {W W' : World} {sp : Nat → Bool} {v : Value} {d : DataW H} {ps : List MemPlace} (h : DataW.Trod enc Tryd.prog W 0 (fun _ => true) true 22 v d ps) (hb : Below W.heap.size W W')
    (hs : ∀ p ∈ ps, sp p.block = true) : DataW.Trod enc Tryd.prog W' 0 sp true 22 v d ps := by
  have hlt : ∀ p ∈ ps, p.block < W.heap.size := by
    obtain ⟨n, hn⟩ := h
    exact DataW.trod_lt n _ _ _ hn
  exact WideElems.Trod_stays (by kernel_rfl) (by kernel_rfl) (of_decide_eq_true (by kernel_rfl)) h (fun p hp => hb.same (hlt p hp)) hs
end Go.Proofs.YtgepfenjbjlgpaaDoor
