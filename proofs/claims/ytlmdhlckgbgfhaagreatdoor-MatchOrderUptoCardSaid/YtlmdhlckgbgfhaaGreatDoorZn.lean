/- Texts that belong together: An argument of type api.Term, opened: what the row reads is a term that memory holds. An argument of type []api.Term, opened and shut. An argument of type api.Atom, opened and shut. An argument of type api.Binding, opened and shut. -/
import Derived.Test.YtlmdhlckgbgfhaaGreatDoorZa
import Derived.Test.YtlmdhlckgbgfhaaGreatDoorChecked
import Derived.Test.YtlmdhlckgbgfhaaGreatDoorZc
import Derived.Lib.SmallJoins
import Derived.Deep.Slices
import Derived.OpenShut
import Derived.Below
import Derived.WideKeyArgs
import Derived.WideShapes
set_option maxRecDepth 100000
set_option maxHeartbeats 400000000
namespace Go.Proofs.YtlmdhlckgbgfhaaGreatDoor
open Go.RowKit Go.ChangeShapes

theorem addr_add (a : Addr) (n : Nat) (h : a.spot = none) : a.add n = ⟨a.block, a.off + n, none⟩ := by
 unfold Addr.add
 obtain ⟨b, o, s⟩ := a
 subst h
 by_cases hn : n = 0 <;> simp [hn]
theorem cell_spot {w : World} {a : Addr} {v : Value} (h : w.cell? a = some v) : a.spot = none := by
 unfold World.cell? at h
 cases hs : a.spot with
 | none => rfl
 | some s => simp [hs] at h; split at h <;> simp at h

theorem tms_of {w : World} {b off len : Nat} (hel : ∀ i, i < len → ∃ c0 c1 c2 c3 t, w.cell? ⟨b, off + i * 4, none⟩ = some c0 ∧ w.cell? ⟨b, off + i * 4 + 1, none⟩ = some c1 ∧ w.cell? ⟨b, off + i * 4 + 2, none⟩ = some c2 ∧ w.cell? ⟨b, off + i * 4 + 3, none⟩ = some c3 ∧ IsTm w.heap.size w c0 c1 c2 c3 t) :
   ∀ k, k ≤ len → ∃ ts : List Tm, ts.length = k ∧ IsTms w.heap.size w b (off + (len - k) * 4) ts := by
 intro k
 induction k with
 | zero => intro _; exact ⟨[], rfl, by simp only [IsTms]⟩
 | succ k ih =>
   intro hk
   obtain ⟨ts, hl, ht⟩ := ih (by omega)
   obtain ⟨c0, c1, c2, c3, t, h0, h1, h2, h3, hi⟩ := hel (len - (k + 1)) (by omega)
   refine ⟨t :: ts, by simp [hl], ?_⟩
   simp only [IsTms]
   refine ⟨c0, c1, c2, c3, h0, h1, h2, h3, hi, ?_⟩
   have e : off + (len - (k + 1)) * 4 + 4 = off + (len - k) * 4 := by omega
   rw [e]
   exact ht

theorem isTm_of_trod {H : Type} {enc : TypeId × Value → H} {w : World} {sp : Nat → Bool} {held : Bool} (n : Nat) : ∀ (cs : List Value) (x : DataW H × List MemPlace),
   DataW.trod enc Tryz.prog w 0 sp held n 24 cs = some x → ∃ c0 c1 c2 c3 t, cs = [c0, c1, c2, c3] ∧ IsTm w.heap.size w c0 c1 c2 c3 t := by
 induction n using Nat.strongRecOn with
 | ind n ih =>
   intro cs x h
   obtain ⟨xs, m, rfl, rfl, hl, hlen, hf⟩ := DataW.trod_struct Tryz.underlying24 h
   rw [show Tryz.prog.cellsOf 24 = 4 by kernel_rfl] at hl
   match cs, hl, xs, hlen with
   | [c0, c1, c2, c3], _, [y0, y1, y2, y3], _ =>
     have g0 : DataW.trod enc Tryz.prog w 0 sp held m 5 (List.take (Tryz.prog.cellsOf 5) (List.drop 0 [c0, c1, c2, c3])) = some y0 := hf 0 _ rfl
     have g1 : DataW.trod enc Tryz.prog w 0 sp held m 3 (List.take (Tryz.prog.cellsOf 3) (List.drop 1 [c0, c1, c2, c3])) = some y1 := hf 1 _ rfl
     have g2 : DataW.trod enc Tryz.prog w 0 sp held m 9 (List.take (Tryz.prog.cellsOf 9) (List.drop 2 [c0, c1, c2, c3])) = some y2 := hf 2 _ rfl
     have g3 : DataW.trod enc Tryz.prog w 0 sp held m 22 (List.take (Tryz.prog.cellsOf 22) (List.drop 3 [c0, c1, c2, c3])) = some y3 := hf 3 _ rfl
     simp only [show Tryz.prog.cellsOf 5 = 1 by kernel_rfl, show Tryz.prog.cellsOf 3 = 1 by kernel_rfl, show Tryz.prog.cellsOf 9 = 1 by kernel_rfl, show Tryz.prog.cellsOf 22 = 1 by kernel_rfl, List.drop, List.take] at g0 g1 g2 g3
     obtain ⟨k, e0, _, hk⟩ := DataW.trod_int Tryz.underlying5 g0
     obtain ⟨v, e1, _, hv⟩ := DataW.trod_int Tryz.underlying3 g1
     obtain ⟨s, e2, _, hs⟩ := DataW.trod_string Tryz.underlying9 g2
     simp only [List.cons.injEq, and_true] at e0 e1 e2
     subst e0 e1 e2
     have hk' : 0 ≤ k ∧ k ≤ 255 := by
       unfold Lit.wf at hk
       simpa [Bool.and_eq_true, decide_eq_true_eq, IntKind.min, IntKind.max, IntKind.signed, IntKind.bits] using hk
     rcases DataW.trod_slice Tryz.underlying22 g3 with ⟨e3, _⟩ | ⟨a, len, cap, elems, rest, n', rfl, e3, _, hb, hlc, hcm, hel, hat, _, _⟩
     · simp only [List.cons.injEq, and_true] at e3
       subst e3
       refine ⟨_, _, _, _, .mk k v s [], rfl, ?_⟩
       unfold IsTm
       exact ⟨rfl, hk', rfl, hv, rfl, hs, none, 0, rfl, by simp, fun h => absurd rfl h⟩
     · simp only [List.cons.injEq, and_true] at e3
       subst e3
       have each : ∀ i, i < len → a.spot = none ∧ a.block < w.heap.size ∧ ∃ c0 c1 c2 c3 t, w.cell? ⟨a.block, a.off + i * 4, none⟩ = some c0 ∧ w.cell? ⟨a.block, a.off + i * 4 + 1, none⟩ = some c1 ∧ w.cell? ⟨a.block, a.off + i * 4 + 2, none⟩ = some c2 ∧
           w.cell? ⟨a.block, a.off + i * 4 + 3, none⟩ = some c3 ∧ IsTm w.heap.size w c0 c1 c2 c3 t := by
         intro i hi
         have h1 := hat i hi
         have h0 := hat 0 (by omega)
         rw [show Tryz.prog.cellsOf 24 = 4 by kernel_rfl] at h1 h0
         rw [List.getElem?_eq_getElem (by omega)] at h1 h0
         obtain ⟨cs0, hc0, _⟩ := Option.bind_eq_some_iff.1 h0
         obtain ⟨cs1, hc1, ht1⟩ := Option.bind_eq_some_iff.1 h1
         obtain ⟨c0, c1, c2, c3, t, rfl, hi1⟩ := ih n' (by omega) _ _ ht1
         obtain ⟨_, hl0, hcell0⟩ := World.cells?_some hc0
         obtain ⟨_, hl1, hcell1⟩ := World.cells?_some hc1
         have hsp : a.spot = none := by
           have := hcell0 0 (by omega)
           rw [List.getElem?_eq_getElem (by omega)] at this
           have := cell_spot this
           simpa [Addr.add] using this
         have hblk : a.block < w.heap.size := by
           have := World.cells?_block hc0 (by omega)
           rwa [addr_add _ _ hsp] at this
         rw [addr_add _ _ hsp] at hcell1
         refine ⟨hsp, hblk, c0, c1, c2, c3, t, ?_, ?_, ?_, ?_, hi1⟩
         · simpa [Addr.add] using hcell1 0 (by omega)
         · simpa [Addr.add] using hcell1 1 (by omega)
         · simpa [Addr.add] using hcell1 2 (by omega)
         · simpa [Addr.add] using hcell1 3 (by omega)
       obtain ⟨ts, htl, hts⟩ := tms_of (fun i hi => (each i hi).2.2) len (Nat.le_refl _)
       subst htl
       refine ⟨_, _, _, _, .mk k v s ts, rfl, ?_⟩
       unfold IsTm
       refine ⟨rfl, hk', rfl, hv, rfl, hs, some a, cap, rfl, by omega, fun hne => ?_⟩
       have hpos : 0 < ts.length := by cases ts with
         | nil => exact absurd rfl hne
         | cons _ _ => simp
       obtain ⟨hsp, hblk, _⟩ := each 0 hpos
       obtain ⟨b, o, sp'⟩ := a
       simp only at hsp
       subst hsp
       refine ⟨b, o, rfl, hblk, ?_⟩
       simpa using hts

end Go.Proofs.YtlmdhlckgbgfhaaGreatDoor
namespace Go.Proofs.YtlmdhlckgbgfhaaGreatDoor
open Go.RowKit Go.ChangeShapes

theorem open_terms_of {H : Type} {enc : TypeId × Value → H} {w : World} {sp : Nat → Bool} {held : Bool} {v : Value} {d : DataW H} {ps : List MemPlace} (hv : ∃ a l c, v = Value.slice a l c)
   (h : DataW.Trod enc Tryz.prog w 0 sp held 22 v d ps) : ∃ (a : Option Addr) (us : List Tm) (cap : Nat), v = .slice a us.length cap ∧ us.length ≤ cap ∧ us.length ≤ maxLen ∧
     (us ≠ [] → ∃ b off, a = some ⟨b, off, none⟩ ∧ b < w.heap.size ∧ IsTms w.heap.size w b off us) := by
 obtain ⟨a0, len0, cap0, rfl⟩ := hv
 obtain ⟨n, hn⟩ := h
 rcases DataW.trod_slice Tryz.underlying22 hn with ⟨e3, _⟩ | ⟨a, len, cap, elems, rest, n', rfl, e3, _, hb, hlc, hcm, hel, hat, _, _⟩
 · have e : Value.slice a0 len0 cap0 = .slice none 0 0 := by simpa [Value.cells] using e3
   exact ⟨none, [], 0, e, Nat.le_refl _, by unfold maxLen; simp, fun h => absurd rfl h⟩
 · have e : Value.slice a0 len0 cap0 = .slice (some a) len cap := by simpa [Value.cells] using e3
   rw [e]
   have each : ∀ i, i < len → a.spot = none ∧ a.block < w.heap.size ∧ ∃ c0 c1 c2 c3 t, w.cell? ⟨a.block, a.off + i * 4, none⟩ = some c0 ∧ w.cell? ⟨a.block, a.off + i * 4 + 1, none⟩ = some c1 ∧ w.cell? ⟨a.block, a.off + i * 4 + 2, none⟩ = some c2 ∧
       w.cell? ⟨a.block, a.off + i * 4 + 3, none⟩ = some c3 ∧ IsTm w.heap.size w c0 c1 c2 c3 t := by
     intro i hi
     have h1 := hat i hi
     have h0 := hat 0 (by omega)
     rw [show Tryz.prog.cellsOf 24 = 4 by kernel_rfl] at h1 h0
     rw [List.getElem?_eq_getElem (by omega)] at h1 h0
     obtain ⟨cs0, hc0, _⟩ := Option.bind_eq_some_iff.1 h0
     obtain ⟨cs1, hc1, ht1⟩ := Option.bind_eq_some_iff.1 h1
     obtain ⟨c0, c1, c2, c3, t, rfl, hi1⟩ := isTm_of_trod n' _ _ ht1
     obtain ⟨_, hl0, hcell0⟩ := World.cells?_some hc0
     obtain ⟨_, hl1, hcell1⟩ := World.cells?_some hc1
     have hsp : a.spot = none := by
       have := hcell0 0 (by omega)
       rw [List.getElem?_eq_getElem (by omega)] at this
       have := cell_spot this
       simpa [Addr.add] using this
     have hblk : a.block < w.heap.size := by
       have := World.cells?_block hc0 (by omega)
       rwa [addr_add _ _ hsp] at this
     rw [addr_add _ _ hsp] at hcell1
     refine ⟨hsp, hblk, c0, c1, c2, c3, t, ?_, ?_, ?_, ?_, hi1⟩
     · simpa [Addr.add] using hcell1 0 (by omega)
     · simpa [Addr.add] using hcell1 1 (by omega)
     · simpa [Addr.add] using hcell1 2 (by omega)
     · simpa [Addr.add] using hcell1 3 (by omega)
   obtain ⟨ts, htl, hts⟩ := tms_of (fun i hi => (each i hi).2.2) len (Nat.le_refl _)
   subst htl
   refine ⟨some a, ts, cap, rfl, by omega, by omega, fun hne => ?_⟩
   have hpos : 0 < ts.length := by cases ts with
     | nil => exact absurd rfl hne
     | cons _ _ => simp
   obtain ⟨hsp, hblk, _⟩ := each 0 hpos
   obtain ⟨b, o, sp'⟩ := a
   simp only at hsp
   subst hsp
   refine ⟨b, o, rfl, hblk, ?_⟩
   simpa using hts
end Go.Proofs.YtlmdhlckgbgfhaaGreatDoor
namespace Go.Proofs.YtlmdhlckgbgfhaaGreatDoor
open Go.RowKit Go.ChangeShapes

theorem open_atom {H : Type} {enc : TypeId × Value → H} {w : World} {r : Reach} {b : Nat} {sp : Nat → Bool} {held : Bool} {v : Value} {d : DataW H} {ps : List MemPlace}  (hv : Value.okWide Tryz.prog w r b 47 v)
   (h : DataW.Trod enc Tryz.prog w 0 sp held 47 v d ps) : ∃ (s : ByteArray) (a : Option Addr) (us : List Tm) (cap : Nat), v = .agg #[.string s, .slice a us.length cap] ∧ s.size ≤ maxLen ∧ us.length ≤ cap ∧ us.length ≤ maxLen ∧
     (us ≠ [] → ∃ b off, a = some ⟨b, off, none⟩ ∧ b < w.heap.size ∧ IsTms w.heap.size w b off us) := by
 obtain ⟨cs, rfl, hc⟩ := Go.WideShapes.okWide_struct Tryz.underlying47 hv
 obtain ⟨n, hn⟩ := h
 obtain ⟨xs, m, _, _, hl, hlen, hf⟩ := DataW.trod_struct Tryz.underlying47 hn
 rw [show Tryz.prog.cellsOf 47 = 2 by kernel_rfl] at hl
 obtain ⟨cs⟩ := cs
 match cs, hl, xs, hlen with
 | [c0, c1], _, [y0, y1], _ =>
   have g0 : DataW.trod enc Tryz.prog w 0 sp held m 9 (List.take (Tryz.prog.cellsOf 9) (List.drop 0 [c0, c1])) = some y0 := hf 0 _ rfl
   have g1 : DataW.trod enc Tryz.prog w 0 sp held m 22 (List.take (Tryz.prog.cellsOf 22) (List.drop 1 [c0, c1])) = some y1 := hf 1 _ rfl
   simp only [show Tryz.prog.cellsOf 9 = 1 by kernel_rfl, show Tryz.prog.cellsOf 22 = 1 by kernel_rfl, List.drop, List.take] at g0 g1
   obtain ⟨s, e2, _, hs⟩ := DataW.trod_string Tryz.underlying9 g0
   simp only [List.cons.injEq, and_true] at e2
   subst e2
   have hsl : ∃ a l c, c1 = Value.slice a l c := by
     rcases DataW.trod_slice Tryz.underlying22 g1 with ⟨e3, _⟩ | ⟨a, len, cap, elems, rest, n', _, e3, _⟩
     · exact ⟨_, _, _, List.cons.inj e3 |>.1⟩
     · exact ⟨_, _, _, List.cons.inj e3 |>.1⟩
   have hsl2 := hsl
   obtain ⟨a1, l1, k1, rfl⟩ := hsl2
   obtain ⟨a, us, cap, e, h1, h2, h3⟩ := open_terms_of (enc := enc) (sp := sp) (held := held) hsl ⟨m, g1⟩
   rw [e]
   exact ⟨s, a, us, cap, rfl, hs, h1, h2, h3⟩
theorem shut_atom {H : Type} {enc : TypeId × Value → H} {W W' : World} {sp : Nat → Bool} {v : Value} {d : DataW H} {ps : List MemPlace} (h : DataW.Trod enc Tryz.prog W 0 (fun _ => true) true 47 v d ps) (hb : Below W.heap.size W W')
   (hs : ∀ p ∈ ps, sp p.block = true) : DataW.Trod enc Tryz.prog W' 0 sp true 47 v d ps := by
 have hlt : ∀ p ∈ ps, p.block < W.heap.size := by
   obtain ⟨n, hn⟩ := h
   exact DataW.trod_lt n _ _ _ hn
 exact WideElems.Trod_stays (by kernel_rfl) (by kernel_rfl) (of_decide_eq_true (by kernel_rfl)) h (fun p hp => hb.same (hlt p hp)) hs
end Go.Proofs.YtlmdhlckgbgfhaaGreatDoor
namespace Go.Proofs.YtlmdhlckgbgfhaaGreatDoor
open Go.RowKit Go.ChangeShapes

theorem isBind_of_trod {H : Type} {enc : TypeId × Value → H} {w : World} {sp : Nat → Bool} {held : Bool} (n : Nat) (cs : List Value) (x : DataW H × List MemPlace)
   (h : DataW.trod enc Tryz.prog w 0 sp held n 40 cs = some x) : ∃ s c0 c1 c2 c3 t, cs = [.string s, c0, c1, c2, c3] ∧ s.size ≤ maxLen ∧ IsTm w.heap.size w c0 c1 c2 c3 t := by
 obtain ⟨xs, m, rfl, rfl, hl, hlen, hf⟩ := DataW.trod_struct Tryz.underlying40 h
 rw [show Tryz.prog.cellsOf 40 = 5 by kernel_rfl] at hl
 match cs, hl, xs, hlen with
 | [c, c0, c1, c2, c3], _, [y0, y1], _ =>
   have g0 : DataW.trod enc Tryz.prog w 0 sp held m 9 (List.take (Tryz.prog.cellsOf 9) (List.drop 0 [c, c0, c1, c2, c3])) = some y0 := hf 0 _ rfl
   have g1 : DataW.trod enc Tryz.prog w 0 sp held m 24 (List.take (Tryz.prog.cellsOf 24) (List.drop 1 [c, c0, c1, c2, c3])) = some y1 := hf 1 _ rfl
   simp only [show Tryz.prog.cellsOf 9 = 1 by kernel_rfl, show Tryz.prog.cellsOf 24 = 4 by kernel_rfl, List.drop, List.take] at g0 g1
   obtain ⟨s, e2, _, hs⟩ := DataW.trod_string Tryz.underlying9 g0
   simp only [List.cons.injEq, and_true] at e2
   subst e2
   obtain ⟨x0, x1, x2, x3, t, e, ht⟩ := isTm_of_trod _ _ _ g1
   simp only [List.cons.injEq, and_true] at e
   obtain ⟨rfl, rfl, rfl, rfl⟩ := e
   exact ⟨s, _, _, _, _, t, rfl, hs, ht⟩
theorem bs_of {w : World} {b off len : Nat} (hel : ∀ i, i < len → ∃ s c0 c1 c2 c3 t, w.cell? ⟨b, off + i * 5, none⟩ = some (.string s) ∧ w.cell? ⟨b, off + i * 5 + 1, none⟩ = some c0 ∧ w.cell? ⟨b, off + i * 5 + 2, none⟩ = some c1 ∧ w.cell? ⟨b, off + i * 5 + 3, none⟩ = some c2 ∧ w.cell? ⟨b, off + i * 5 + 4, none⟩ = some c3 ∧ s.size ≤ maxLen ∧ IsTm w.heap.size w c0 c1 c2 c3 t) :
   ∀ k, k ≤ len → ∃ ts : Bd, ts.length = k ∧ IsBs w.heap.size w b (off + (len - k) * 5) ts := by
 intro k
 induction k with
 | zero => intro _; exact ⟨[], rfl, by simp only [IsBs]⟩
 | succ k ih =>
   intro hk
   obtain ⟨ts, hl, ht⟩ := ih (by omega)
   obtain ⟨s, c0, c1, c2, c3, t, h, h0, h1, h2, h3, hs, hi⟩ := hel (len - (k + 1)) (by omega)
   refine ⟨(s, t) :: ts, by simp [hl], ?_⟩
   simp only [IsBs]
   refine ⟨hs, h, ⟨c0, c1, c2, c3, h0, h1, h2, h3, hi⟩, ?_⟩
   have e : off + (len - (k + 1)) * 5 + 5 = off + (len - k) * 5 := by omega
   rw [e]
   exact ht
theorem open_bd {H : Type} {enc : TypeId × Value → H} {w : World} {r : Reach} {b : Nat} {sp : Nat → Bool} {held : Bool} {v : Value} {d : DataW H} {ps : List MemPlace} (hv : Value.okWide Tryz.prog w r b 26 v)
   (h : DataW.Trod enc Tryz.prog w 0 sp held 26 v d ps) : ∃ us : Bd, BdV w v us := by
 obtain ⟨a0, len0, cap0, rfl⟩ := Go.WideShapes.okWide_slice Tryz.underlying26 hv
 obtain ⟨n, hn⟩ := h
 rcases DataW.trod_slice Tryz.underlying26 hn with ⟨e3, _⟩ | ⟨a, len, cap, elems, rest, n', rfl, e3, _, hb, hlc, hcm, hel, hat, _, _⟩
 · have e : Value.slice a0 len0 cap0 = .slice none 0 0 := by simpa [Value.cells] using e3
   rw [e]
   exact ⟨[], none, 0, rfl, Nat.le_refl _, Nat.zero_le _, fun h => absurd rfl h⟩
 · have e : Value.slice a0 len0 cap0 = .slice (some a) len cap := by simpa [Value.cells] using e3
   rw [e]
   have each : ∀ i, i < len → a.spot = none ∧ a.block < w.heap.size ∧ ∃ s c0 c1 c2 c3 t, w.cell? ⟨a.block, a.off + i * 5, none⟩ = some (.string s) ∧ w.cell? ⟨a.block, a.off + i * 5 + 1, none⟩ = some c0 ∧ w.cell? ⟨a.block, a.off + i * 5 + 2, none⟩ = some c1 ∧
       w.cell? ⟨a.block, a.off + i * 5 + 3, none⟩ = some c2 ∧ w.cell? ⟨a.block, a.off + i * 5 + 4, none⟩ = some c3 ∧ s.size ≤ maxLen ∧ IsTm w.heap.size w c0 c1 c2 c3 t := by
     intro i hi
     have h1 := hat i hi
     have h0 := hat 0 (by omega)
     rw [show Tryz.prog.cellsOf 40 = 5 by kernel_rfl] at h1 h0
     rw [List.getElem?_eq_getElem (by omega)] at h1 h0
     obtain ⟨cs0, hc0, _⟩ := Option.bind_eq_some_iff.1 h0
     obtain ⟨cs1, hc1, ht1⟩ := Option.bind_eq_some_iff.1 h1
     obtain ⟨s, c0, c1, c2, c3, t, rfl, hs1, hi1⟩ := isBind_of_trod n' _ _ ht1
     obtain ⟨_, hl0, hcell0⟩ := World.cells?_some hc0
     obtain ⟨_, hl1, hcell1⟩ := World.cells?_some hc1
     have hsp : a.spot = none := by
       have := hcell0 0 (by omega)
       rw [List.getElem?_eq_getElem (by omega)] at this
       have := cell_spot this
       simpa [Addr.add] using this
     have hblk : a.block < w.heap.size := by
       have := World.cells?_block hc0 (by omega)
       rwa [addr_add _ _ hsp] at this
     rw [addr_add _ _ hsp] at hcell1
     refine ⟨hsp, hblk, s, c0, c1, c2, c3, t, ?_, ?_, ?_, ?_, ?_, hs1, hi1⟩
     · simpa [Addr.add] using hcell1 0 (by omega)
     · simpa [Addr.add] using hcell1 1 (by omega)
     · simpa [Addr.add] using hcell1 2 (by omega)
     · simpa [Addr.add] using hcell1 3 (by omega)
     · simpa [Addr.add] using hcell1 4 (by omega)
   obtain ⟨ts, htl, hts⟩ := bs_of (fun i hi => (each i hi).2.2) len (Nat.le_refl _)
   subst htl
   refine ⟨ts, some a, cap, rfl, by omega, by omega, fun hne => ?_⟩
   have hpos : 0 < ts.length := by cases ts with
     | nil => exact absurd rfl hne
     | cons _ _ => simp
   obtain ⟨hsp, hblk, _⟩ := each 0 hpos
   obtain ⟨b, o, sp'⟩ := a
   simp only at hsp
   subst hsp
   refine ⟨b, o, rfl, hblk, ?_⟩
   simpa using hts
theorem shut_bd {H : Type} {enc : TypeId × Value → H} {W W' : World} {sp : Nat → Bool} {v : Value} {d : DataW H} {ps : List MemPlace} (h : DataW.Trod enc Tryz.prog W 0 (fun _ => true) true 26 v d ps) (hb : Below W.heap.size W W')
   (hs : ∀ p ∈ ps, sp p.block = true) : DataW.Trod enc Tryz.prog W' 0 sp true 26 v d ps := by
 have hlt : ∀ p ∈ ps, p.block < W.heap.size := by
   obtain ⟨n, hn⟩ := h
   exact DataW.trod_lt n _ _ _ hn
 exact WideElems.Trod_stays (by kernel_rfl) (by kernel_rfl) (of_decide_eq_true (by kernel_rfl)) h (fun p hp => hb.same (hlt p hp)) hs
end Go.Proofs.YtlmdhlckgbgfhaaGreatDoor
