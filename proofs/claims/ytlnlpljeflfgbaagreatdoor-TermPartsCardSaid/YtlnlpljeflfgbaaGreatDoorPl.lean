/- The law of parts: lemmas of its walk's second half. -/
import Derived.Test.YtlnlpljeflfgbaaGreatDoorPm
import Derived.Test.YtlnlpljeflfgbaaGreatDoorRu
import Derived.Test.YtlnlpljeflfgbaaGreatDoorPx
import Derived.Laws.OwnMore
import Derived.Sort.Walk0
namespace Go.Proofs.YtlnlpljeflfgbaaGreatDoor
open Go.RowKit

theorem wanted_none {o : Oper} {y : Nat → Option Bool} {k : Nat} {b : Bool} (hg : o.guard = some (k, b)) (hy : y k = none) : Region.wanted o y = false := by
  unfold Region.wanted
  rw [hg]
  simp [hy]
theorem yielded_undef {ops : Array Oper} {tmps : Array Value} {k d : Nat} (h : dstAt ops k d = true) (hv : tmps.getD d undef = undef) : yielded ops tmps k = none := by
  obtain ⟨oj, h1, h2⟩ := dstAt_spec h
  unfold yielded
  cases ht : tmps[d]? with
  | none => simp [h1, h2, ht]
  | some v =>
    have : v = undef := by
      rw [Array.getD_eq_getD_getElem?, ht] at hv
      simpa using hv
    subst this
    simp [h1, h2, ht, undef]

/-- A row of strings that the call owns, as the strings that its cells hold. -/
def toBa (xs : List (List UInt8)) : List ByteArray := xs.map fun l => ⟨l.toArray⟩
theorem toBa_length (xs : List (List UInt8)) : (toBa xs).length = xs.length := by unfold toBa; simp
theorem toBa_get (xs : List (List UInt8)) (i : Nat) (h : i < (toBa xs).length) : (toBa xs)[i] = ⟨(xs[i]'(by rw [← toBa_length]; exact h)).toArray⟩ := List.getElem_map (fun l : List UInt8 => (⟨l.toArray⟩ : ByteArray)) (l := xs) (i := i) (h := h)
theorem toBa_at (xs : List (List UInt8)) (i : Nat) (h : i < (toBa xs).length) : (toBa xs)[i].toList = xs[i]'(by rw [← toBa_length]; exact h) := by
  rw [toBa_get, ByteArray.toList_eq]
theorem owns_strv {w : World} {base : Nat} {v : Value} {xs : List (List UInt8)} (h : w.ownsRow base 9 1 v xs.length (xs.map encStr)) (hl : xs.length ≤ maxLen) : StrV w v (toBa xs) := by
  rcases h.2 with ⟨rfl, h0⟩ | ⟨g, cap, cur, rfl, hb, hg, _⟩
  · have : xs = [] := List.length_eq_zero_iff.1 h0
    subst this
    exact ⟨none, 0, rfl, by unfold toBa maxLen; simp, fun h => absurd rfl h⟩
  · have hc := h.cells (g := g) rfl
    refine ⟨some ⟨g, 0, none⟩, cap, by rw [toBa_length], by rw [toBa_length]; exact hl, fun _ => ⟨g, 0, rfl, (Array.getElem?_eq_some_iff.1 hg).1, fun i hi => ?_⟩⟩
    have hi' : i < xs.length := by rw [← toBa_length]; exact hi
    have h1 := hc i (encStr xs[i]) (by rw [List.getElem?_map, List.getElem?_eq_getElem hi']; rfl)
    have e : ((⟨g, 0, none⟩ : Addr).add i) = ⟨g, 0 + i, none⟩ := by
      unfold Addr.add
      by_cases h0 : i = 0 <;> simp [h0]
    rw [e] at h1
    rw [toBa_get]
    exact h1

theorem sevens_cons (m : Nat) : (List.replicate (m + 1) [Value.int .u8 1, .int .i64 7, .string ⟨#[]⟩, .slice none 0 0]).flatten = Value.int .u8 1 :: .int .i64 7 :: .string ⟨#[]⟩ :: .slice none 0 0 :: (List.replicate m [Value.int .u8 1, .int .i64 7, .string ⟨#[]⟩, .slice none 0 0]).flatten := by
  rw [List.replicate_succ, List.flatten_cons]
  rfl
theorem tms_sevens {B : Nat} {w : World} {g : Nat} : ∀ (m off : Nat), (∀ i u, ((List.replicate m [Value.int .u8 1, .int .i64 7, .string ⟨#[]⟩, .slice none 0 0]).flatten)[i]? = some u → w.cell? ⟨g, off + i, none⟩ = some u) → IsTms B w g off (List.replicate m (tNum 7))
  | 0, _, _ => by simp only [List.replicate_zero, IsTms]
  | m + 1, off, h => by
    rw [List.replicate_succ]
    simp only [IsTms]
    rw [sevens_cons] at h
    refine ⟨.int .u8 1, .int .i64 7, .string ⟨#[]⟩, .slice none 0 0, h 0 _ rfl, h 1 _ rfl, h 2 _ rfl, h 3 _ rfl, ?_, tms_sevens m (off + 4) (fun i u hi => ?_)⟩
    · exact isTm_mk (us := []) (by omega) (i64_mk (by omega)) (by decide) (by decide) (fun h => absurd rfl h)
    · have := h (i + 4) u (by simpa using hi)
      rwa [show off + (i + 4) = off + 4 + i by omega] at this
/-- The flat twin, held. -/
theorem flat_holds {w : World} {base : Nat} {k n : Int} {s : ByteArray} {m : Nat} {vF : Value} {xs : List Value} (hxs : xs = (List.replicate m [Value.int .u8 1, .int .i64 7, .string ⟨#[]⟩, .slice none 0 0]).flatten) (hk : 0 ≤ k ∧ k ≤ 255) (hn : I64 n) (hs : s.size ≤ maxLen) (hm : m ≤ maxLen)
    (h : w.ownsRow base 24 4 vF m xs) : IsTm w.heap.size w (.int .u8 k) (.int .i64 n) (.string s) vF (.mk k n s (List.replicate m (tNum 7))) := by
  rcases h.2 with ⟨rfl, h0⟩ | ⟨g, cap, cur, rfl, hb, hg, _⟩
  · subst h0
    exact isTm_mk (us := []) hk hn hs (by decide) (fun h => absurd rfl h)
  · have hc := h.cells (g := g) rfl
    have e := isTm_mk (B := w.heap.size) (w := w) (us := List.replicate m (tNum 7)) (a := some ⟨g, 0, none⟩) (cap := cap) hk hn hs (by rw [List.length_replicate]; exact hm) (fun _ => ⟨g, 0, rfl, (Array.getElem?_eq_some_iff.1 hg).1, tms_sevens m 0 (fun i u hi => by
      rw [hxs] at hc
      have h1 := hc i u hi
      have e : ((⟨g, 0, none⟩ : Addr).add i) = ⟨g, 0 + i, none⟩ := by
        unfold Addr.add
        by_cases h0 : i = 0 <;> simp [h0]
      rwa [e] at h1)⟩)
    rw [List.length_replicate] at e
    exact e
theorem flat_depth (k n : Int) (s : ByteArray) (m : Nat) : (Tm.mk k n s (List.replicate m (tNum 7))).depth < 4611686018427387900 := by
  have := (sevens_req m).2
  simp only [Tm.depth]
  omega

/-- Neighbours among sorted names. -/
theorem svars_less {t : Tm} {ss : List (List UInt8)} (h : SVars t ss) (j : Nat) (hj : j + 1 < ss.length) : ss[j] < ss[j + 1] := List.pairwise_iff_getElem.1 h.1 j (j + 1) (by omega) hj (by omega)
theorem ba_less {t : Tm} {ss : List (List UInt8)} (h : SVars t ss) (j : Nat) (hj : j + 1 < (toBa ss).length) : Op.bytesLess (toBa ss)[j].toList (toBa ss)[j + 1].toList = true ∧ Op.bytesLess (toBa ss)[j + 1].toList (toBa ss)[j].toList = false ∧ ((toBa ss)[j + 1].toList == (toBa ss)[j].toList) = false := by
  have hl := svars_less h j (by rw [← toBa_length]; exact hj)
  rw [toBa_at, toBa_at, bytesLess_eq, bytesLess_eq]
  refine ⟨decide_eq_true hl, decide_eq_false (fun h2 => List.lt_irrefl _ (List.lt_trans hl h2)), ?_⟩
  rw [beq_eq_false_iff_ne]
  intro e
  rw [e] at hl
  exact List.lt_irrefl _ hl
/-- A name among others, by its place. -/
theorem ba_mem {xs ys : List (List UInt8)} (h : ∀ x, x ∈ xs → x ∈ ys) (j : Nat) (hj : j < (toBa xs).length) : ∃ i, ∃ hi : i < (toBa ys).length, (toBa ys)[i].toList = (toBa xs)[j].toList := by
  rw [toBa_at xs j hj]
  have hm := h _ (List.getElem_mem (l := xs) (n := j) (by rw [← toBa_length]; exact hj))
  obtain ⟨i, hi, he⟩ := List.getElem_of_mem hm
  refine ⟨i, by rw [toBa_length]; exact hi, ?_⟩
  rw [toBa_at]
  exact he
theorem parts_no {V G : Bool} (h : V = true → false = true ∧ G = true) : V = false := by
  cases V with
  | false => rfl
  | true => exact absurd (h rfl).1 (by simp)
theorem vars_pred {t : Tm} {w : World} {base : Nat} {v : Value} {ss : List (List UInt8)} (h : SVars t ss) (ho : w.ownsRow base 9 1 v ss.length (ss.map encStr)) : ∃ (a : Option Addr) (c : Nat) (ss : List (List UInt8)), SVars t ss ∧ v = .slice a ss.length c := by
  rcases ho.2 with ⟨rfl, h0⟩ | ⟨g, cc, cur, rfl, _⟩
  · exact ⟨none, 0, ss, h, by rw [h0]⟩
  · exact ⟨_, _, ss, h, rfl⟩
end Go.Proofs.YtlnlpljeflfgbaaGreatDoor
