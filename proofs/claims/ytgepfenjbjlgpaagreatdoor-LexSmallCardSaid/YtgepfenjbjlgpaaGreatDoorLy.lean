/- Package lex: Lex and Join as the laws use them; the chapter's examples. -/
import Derived.Test.YtgepfenjbjlgpaaGreatDoorLj
import Derived.ProofKit
namespace Go.Proofs.YtgepfenjbjlgpaaGreatDoor
open Go.RowKit

theorem cellsT_at : ∀ (l : List Tk) (i : Nat) (x : Tk), l[i]? = some x → (cellsT l)[i * 3]? = some (.int .u8 x.k) ∧ (cellsT l)[i * 3 + 1]? = some (.string x.t) ∧ (cellsT l)[i * 3 + 2]? = some (.int .i64 x.a)
  | [], i, x, h => by simp at h
  | y :: r, 0, x, h => by
    obtain rfl : y = x := by simpa using h
    exact ⟨rfl, rfl, rfl⟩
  | y :: r, i + 1, x, h => by
    have := cellsT_at r i x (by simpa using h)
    rw [show (i + 1) * 3 = i * 3 + 3 from by omega]
    simpa [cellsT] using this
theorem isToks_of_row {W : World} {b : Nat} {v : Value} {l : List Tk} (h : W.ownsRow b 33 3 v l.length (cellsT l)) : IsToks W.heap.size W v l := by
  rcases h.2 with ⟨rfl, h0⟩ | ⟨g, cap, cur, rfl, hg0, hgb, hle, hcl, hcz, htk⟩
  · have : l = [] := List.eq_nil_of_length_eq_zero h0
    subst this
    exact ⟨none, 0, rfl, fun h => absurd rfl h⟩
  · refine ⟨_, cap, rfl, fun _ => ⟨g, 0, rfl, (Array.getElem?_eq_some_iff.1 hgb).1, fun i x hx => ?_⟩⟩
    obtain ⟨k0, k1, k2⟩ := cellsT_at l i x hx
    have hc : ∀ (j : Nat) (u : Value), (cellsT l)[j]? = some u → W.cell? ⟨g, 0 + j, none⟩ = some u := by
      intro j u hu
      rw [Nat.zero_add]
      rw [← htk, List.getElem?_take] at hu
      split at hu
      · exact cells_at hgb j _ (by rw [← Array.getElem?_toList]; exact hu)
      · cases hu
    exact ⟨hc _ _ k0, hc _ _ k1, hc _ _ k2⟩

/-- Lex at a source without a fault. -/
theorem lex_ok (s : ByteArray) (w : World) (hs : s.size ≤ 32768) (hE : ErrOk w) (hn : lexErr s = none) :
    Calls Tryz.prog 9 #[.string s] w fun e w' => ∃ v, e = .returned (.tuple #[v, .int .i64 0, .int .i64 0]) ∧ IsToks w'.heap.size w' v (lexAll s) ∧ Below w.heap.size w w' :=
  (callsIn_wide.1 (lex_in s w hs hE)).mono fun e w' h => by
    unfold LexPost at h; rw [hn] at h
    obtain ⟨hb, v, h1, h2, _⟩ := h
    exact ⟨v, h1, isToks_of_row h2, hb⟩
/-- Lex at a source with a fault. -/
theorem lex_err (s : ByteArray) (w : World) (hs : s.size ≤ 32768) (hE : ErrOk w) (x : Tk) (hn : lexErr s = some x) :
    Calls Tryz.prog 9 #[.string s] w fun e w' => e = .returned (.tuple #[.slice none 0 0, .int .i64 x.a, .int .i64 x.e]) ∧ Below w.heap.size w w' :=
  (callsIn_wide.1 (lex_in s w hs hE)).mono fun e w' h => by
    unfold LexPost at h; rw [hn] at h
    exact ⟨h.2, h.1⟩
set_option maxHeartbeats 1000000 in
theorem lex_long (s : ByteArray) (w : World) (hs : 32768 < s.size) :
    Calls Tryz.prog 9 #[.string s] w fun e w' => e = .returned (.tuple #[.slice none 0 0, .int .i64 0, .int .i64 3]) ∧ Below w.heap.size w w' := by
  go_enter Tryz.func9, Tryz.ntmps9
  go_wp2
  refine bodyPost_ret (v := .tuple #[.slice none 0 0, .int .i64 0, .int .i64 3]) (by simp [results, Tryz.results9, go_sem]) rfl ?_
  exact ⟨rfl, (((Below.refl _ w).alloc (Nat.le_refl _) _).alloc (by simp) _).alloc (by simp; omega) _⟩

theorem join_any (toks : List Tk) (v : Value) (w : World) (hV : IsToks w.heap.size w v toks) (hlen : toks.length ≤ 4294967296) (hj : (joinL toks).length ≤ 140737488355328) :
    Calls Tryz.prog 14 #[v] w fun e w' => e = .returned (.string (joinB toks)) ∧ Below w.heap.size w w' :=
  callsIn_wide.1 (join_in toks v w hV hlen hj)

theorem ErrOk.below {w w' : World} (h : ErrOk w) (hb : Below w.heap.size w w') : ErrOk w' := by
  obtain ⟨te, pe, hc⟩ := h
  refine ⟨te, pe, ?_⟩
  have hlt : 5 < w.heap.size := by
    apply Decidable.byContradiction; intro hn
    have : w.heap[5]? = none := Array.getElem?_eq_none (by omega)
    simp [World.cell?, this] at hc
  exact (hb.cell (p := ⟨5, 0, none⟩) hlt).trans hc

def ex1 : ByteArray := ⟨#[112, 40, 88, 41, 32, 58, 45, 32, 113, 40, 49, 46, 46, 110, 41, 44, 32, 110, 111, 116, 32, 114, 46, 32, 37, 32, 99]⟩
def ex2 : ByteArray := ⟨#[97, 32, 35, 99, 111, 115, 116]⟩
def ex3 : ByteArray := ⟨#[120, 32, 61, 32, 48, 48, 55]⟩
def ex4 : ByteArray := ⟨#[97, 32, 33, 32, 98]⟩
def exJ : ByteArray := ⟨#[112, 32, 40, 32, 88, 32, 41, 32, 58, 45, 32, 113, 32, 40, 32, 49, 32, 46, 46, 32, 110, 32, 41, 32, 44, 32, 110, 111, 116, 32, 114, 32, 46]⟩
theorem ex1_none : lexErr ex1 = none := Option.isNone_iff_eq_none.1 (by decide +kernel)
theorem ex1_len : (lexAll ex1).length = 15 := by decide +kernel
theorem ex1_at : (lexAll ex1).map (·.a) = [0, 1, 2, 3, 5, 8, 9, 10, 11, 13, 14, 15, 17, 21, 22] := by decide +kernel
theorem ex1_kinds : (lexAll ex1).map (·.k) = [1, 6, 2, 6, 6, 1, 6, 3, 6, 1, 6, 6, 4, 1, 6] := by decide +kernel
theorem ex1_join : joinL (lexAll ex1) = exJ.data.toList := by decide +kernel
theorem exErr {s : ByteArray} {a : Nat} {e : Int} (h : (lexErr s).map (fun x => (x.a, x.e)) = some (a, e)) : ∃ x, lexErr s = some x ∧ x.a = a ∧ x.e = e := by
  cases hx : lexErr s with
  | none => rw [hx] at h; cases h
  | some x => rw [hx] at h; simp at h; exact ⟨x, rfl, h.1, h.2⟩
theorem ex2_err : ∃ x, lexErr ex2 = some x ∧ x.a = 2 ∧ x.e = 31 := exErr (by decide +kernel)
theorem ex3_err : ∃ x, lexErr ex3 = some x ∧ x.a = 4 ∧ x.e = 32 := exErr (by decide +kernel)
theorem ex4_err : ∃ x, lexErr ex4 = some x ∧ x.a = 2 ∧ x.e = 30 := exErr (by decide +kernel)
end Go.Proofs.YtgepfenjbjlgpaaGreatDoor
