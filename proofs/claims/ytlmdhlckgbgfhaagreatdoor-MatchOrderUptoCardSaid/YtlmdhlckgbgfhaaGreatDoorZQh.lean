/- An argument of type api.Atom, opened: it has at most as many arguments as the bulk of what is read. -/
import Derived.Test.YtlmdhlckgbgfhaaGreatDoorZn
import Derived.Test.YtlmdhlckgbgfhaaGreatDoorRows
set_option maxRecDepth 100000
set_option maxHeartbeats 400000000
namespace Go.Proofs.YtlmdhlckgbgfhaaGreatDoor
open Go.RowKit Go.ChangeShapes

theorem bulk_pos {H : Type} (d : DataW H) : 1 ≤ Rows.uptoBulk d := by
 cases d with
 | lit l => cases l <;> simp [Rows.uptoBulk]
 | _ => simp [Rows.uptoBulk]
theorem bulk_len {H : Type} : ∀ l : List (DataW H), l.length ≤ Rows.uptoBulkAll l
 | [] => Nat.zero_le _
 | d :: l => by
   have h1 := bulk_pos d
   have h2 := bulk_len l
   simp only [List.length_cons, Rows.uptoBulkAll]
   omega
theorem open_atomw {H : Type} {enc : TypeId × Value → H} {w : World} {r : Reach} {b : Nat} {sp : Nat → Bool} {held : Bool} {v : Value} {d : DataW H} {ps : List MemPlace} (hv : Value.okWide Tryz.prog w r b 47 v)
   (h : DataW.Trod enc Tryz.prog w 0 sp held 47 v d ps) : ∃ (s : ByteArray) (a : Option Addr) (us : List Tm) (cap : Nat), v = .agg #[.string s, .slice a us.length cap] ∧ s.size ≤ maxLen ∧ us.length ≤ cap ∧ us.length ≤ maxLen ∧
     (us ≠ [] → ∃ b off, a = some ⟨b, off, none⟩ ∧ b < w.heap.size ∧ IsTms w.heap.size w b off us) ∧ us.length ≤ Rows.uptoBulk d := by
 obtain ⟨s, a, us, cap, rfl, h1, h2, h3, h4⟩ := open_atom hv h
 refine ⟨s, a, us, cap, rfl, h1, h2, h3, h4, ?_⟩
 obtain ⟨n, hn⟩ := h
 obtain ⟨xs, m, _, e, _, hlen, hf⟩ := DataW.trod_struct Tryz.underlying47 hn
 match xs, hlen with
 | [y0, y1], _ =>
   have g1 : DataW.trod enc Tryz.prog w 0 sp held m 22 (List.take (Tryz.prog.cellsOf 22) (List.drop 1 [.string s, .slice a us.length cap])) = some y1 := hf 1 _ rfl
   simp only [show Tryz.prog.cellsOf 22 = 1 by kernel_rfl, List.drop, List.take] at g1
   have hd : Rows.uptoBulk d = Rows.uptoBulk y0.1 + (Rows.uptoBulk y1.1 + 0) + 1 := by
     rw [show d = .agg ([y0, y1].map (·.1)) from congrArg Prod.fst e]
     rfl
   have hy : us.length ≤ Rows.uptoBulk y1.1 := by
     rcases DataW.trod_slice Tryz.underlying22 g1 with ⟨e3, _⟩ | ⟨a2, len, cap2, elems, rest, n', _, e3, hx3, _, _, _, hel, _⟩
     · simp only [List.cons.injEq, Value.slice.injEq, and_true] at e3
       omega
     · simp only [List.cons.injEq, Value.slice.injEq, and_true] at e3
       have hy3 : Rows.uptoBulk y1.1 = Rows.uptoBulkAll (elems.map (·.1)) + Rows.uptoBulkAll (rest.map (·.1)) + 1 := by
         rw [show y1.1 = .slice (elems.map (·.1)) (rest.map (·.1)) from congrArg Prod.fst hx3]
         rfl
       have := bulk_len (elems.map (·.1))
       rw [List.length_map] at this
       omega
   omega
end Go.Proofs.YtlmdhlckgbgfhaaGreatDoor
