/- Package arith: a map of numbers that a call makes; the table's look-up. -/
import Derived.Test.YtnobmffgchlijaaGreatDoorAf
import Derived.Lib.SlKeysI
import Derived.Maps.OwnIn
namespace Go.Proofs.YtnobmffgchlijaaGreatDoor
open Go.RowKit Go.Maps

theorem bool_inv {v : Value} {z : DataW Unit × List MemPlace} (h : plainElem Tryz.prog 4 v = some z) : ∃ b, v = .bool b ∧ z = (.lit (.bool b), []) := by
  have hu : Tryz.prog.underlying 4 = some .bool := Tryz.underlying4
  unfold plainElem at h
  rw [hu] at h
  split at h
  · rename_i x; cases h; exact ⟨_, rfl, rfl⟩
  · rename_i e; cases e
  · rename_i e; cases e
  · cases h

/-- Block M holds the set of the numbers. -/
def SetI (w : World) (M : Nat) (ss : List Int) : Prop := ∃ D : DataW Unit, w.ownsMap Tryz.prog 3 (plainElem Tryz.prog 4) M ss.length D ∧ (∀ x : Int, Maps.has D (.int .i64 x) = true ↔ x ∈ ss) ∧ Maps.size D = ss.length ∧
  (∀ x ∈ ss, ∀ z, D.atKey (.int .i64 x) z = .lit (.bool true)) ∧ ss.Nodup
theorem SetI.made (w : World) : SetI (w.alloc (.map #[] 0)) w.heap.size [] :=
  ⟨.map [], World.ownsMap_made w _ _ _, fun x => by simp [Maps.has], rfl, fun x h => (by cases h), List.nodup_nil⟩
theorem SetI.kept {w w' : World} {M : Nat} {ss : List Int} {row : Option Nat} (h : SetI w M ss) (hg : w.grownBy w' row) (hne : some M ≠ row) : SetI w' M ss := by
  obtain ⟨D, h1, h2⟩ := h
  exact ⟨D, h1.kept hg hne, h2⟩
theorem SetI.lt {w : World} {M : Nat} {ss : List Int} (h : SetI w M ss) : M < w.heap.size := by
  obtain ⟨D, h1, _⟩ := h
  exact h1.lt
theorem SetI.look {w : World} {M : Nat} {ss : List Int} (h : SetI w M ss) (x : Int) (hx : I64 x) : (Instr.lookup 93 (.map (some M)) (.int .i64 x) false).run Tryz.prog w = .ok (.bool (decide (x ∈ ss))) w := by
  obtain ⟨D, h1, h2, h3, h4, h5⟩ := h
  have hz : (zeroValue 4).run Tryz.prog w = .ok (.bool false) w := by kernel_rfl
  obtain ⟨v, ps, hrun, hv⟩ := h1.lookup (Maps.int_keyed Tryz.underlying3) Tryz.underlying93 hz (plainElem_bool Tryz.underlying4 false) (Maps.keyOf_int_mk Tryz.underlying3 hx)
  obtain ⟨b, rfl, hb⟩ := bool_inv hv
  rw [hrun]
  by_cases hm : x ∈ ss
  · rw [h4 x hm] at hb
    have : b = true := (by simpa using hb : b = true ∧ ps = []).1
    rw [decide_eq_true hm, this]
  · have hf : Maps.has D (.int .i64 x) = false := by
      cases hh : Maps.has D (.int .i64 x) with
      | false => rfl
      | true => exact absurd ((h2 x).1 hh) hm
    rw [Maps.atKey_of_not_has hf] at hb
    have : b = false := (by simpa using hb : b = false ∧ ps = []).1
    rw [decide_eq_false hm, this]
theorem SetI.len {w : World} {M : Nat} {ss : List Int} (h : SetI w M ss) (ty : TypeId) : (Builtin.len_ #[93] ty #[.map (some M)]).run Tryz.prog w = .ok (.int .i64 ss.length) w := by
  obtain ⟨D, h1, h2, h3, h4, h5⟩ := h
  rw [← h3]
  exact h1.len Tryz.underlying93 ty
theorem SetI.put {w : World} {M : Nat} {ss : List Int} (h : SetI w M ss) (x : Int) (hx : I64 x) (hn : x ∉ ss) (hl : ss.length ≤ 1000) :
    ∃ w', (Instr.mapUpdate 93 (.map (some M)) (.int .i64 x) (.bool true)).run Tryz.prog w = .ok () w' ∧ SetI w' M (ss ++ [x]) ∧ w.grownBy w' (some M) := by
  obtain ⟨D, h1, h2, h3, h4, h5⟩ := h
  have hk := Maps.keyOf_int_mk (P := Tryz.prog) Tryz.underlying3 hx
  obtain ⟨w', hrun, ho, hg⟩ := h1.update (Maps.int_keyed Tryz.underlying3) Tryz.underlying93 (by unfold maxLen; omega) hk (plainElem_bool Tryz.underlying4 true)
  have ht := h1.tidy (Maps.int_keyed Tryz.underlying3)
  have hK := (Maps.int_keyed Tryz.underlying3).key hk
  have hf : Maps.has D (.int .i64 x) = false := by
    cases hh : Maps.has D (.int .i64 x) with
    | false => rfl
    | true => exact absurd ((h2 x).1 hh) hn
  refine ⟨w', hrun, ⟨_, by simpa using ho, fun y => ?_, ?_, fun y hy z => ?_, ?_⟩, hg⟩
  · by_cases hy : y = x
    · subst hy; exact ⟨fun _ => by simp, fun _ => Maps.has_put_same ht.isMap hK _⟩
    · rw [Maps.has_put_other (fun e => hy (by simpa using e)), h2]
      simp [hy]
  · rw [Maps.size_put ht, hf, h3]; simp
  · by_cases hyx : y = x
    · subst hyx; exact Maps.atKey_put_same ht.isMap hK _ z
    · rw [Maps.atKey_put_other (fun e => hyx (by simpa using e))]
      exact h4 y (by simpa [hyx] using hy) z
  · rw [List.nodup_append]
    exact ⟨h5, by simp, fun a ha b hb => by simp at hb; subst hb; exact fun e => hn (e ▸ ha)⟩
/-- The keys. -/
theorem SetI.keys {w : World} {M : Nat} {ss : List Int} (h : SetI w M ss) : ∃ D : DataW Unit, w.ownsMap Tryz.prog 3 (plainElem Tryz.prog 4) M ss.length D ∧ Maps.size D = ss.length ∧ ∀ l : List Int, l.Perm (intKeys D) → l.mergeSort (fun x y => decide (x ≤ y)) = sortI ss ∧ l.length = ss.length := by
  obtain ⟨D, h1, h2, h3, h4, h5⟩ := h
  refine ⟨D, h1, h3, fun l hl => ?_⟩
  have hp : ss.Perm (intKeys D) := CollectedI.perm (left := fun _ => false) ⟨h5, fun x => by rw [h2 x]; simp⟩ h1 (Maps.int_keyed Tryz.underlying3) Tryz.underlying3 (fun _ => rfl)
  have hq := hl.trans hp.symm
  exact ⟨mergeSort_of_perm_i hq, hq.length_eq⟩

/-- The numbers so far, each once. -/
def resOf (o : Ar) (pre : List (List Int)) : List Int := (pre.filterMap (applyI o)).eraseDups
theorem resOf_all (o : Ar) (ls : List (List Int)) : resOf o (combos ls) = resultsI o ls := rfl
theorem resOf_none {o : Ar} {pre : List (List Int)} {x : List Int} (h : applyI o x = none) : resOf o (pre ++ [x]) = resOf o pre := by
  unfold resOf; rw [List.filterMap_append]; simp [h]
theorem resOf_old {o : Ar} {pre : List (List Int)} {x : List Int} {n : Int} (h : applyI o x = some n) (hm : n ∈ resOf o pre) : resOf o (pre ++ [x]) = resOf o pre := by
  unfold resOf at *
  rw [List.filterMap_append, List.eraseDups_append]
  simp only [List.filterMap_cons, h, List.filterMap_nil]
  rw [List.mem_eraseDups] at hm
  simp only [List.removeAll, List.filter_cons, List.filter_nil, List.elem_eq_mem, hm, decide_true, Bool.not_true, Bool.false_eq_true, if_false, List.eraseDups_nil, List.append_nil]
theorem resOf_new {o : Ar} {pre : List (List Int)} {x : List Int} {n : Int} (h : applyI o x = some n) (hm : n ∉ resOf o pre) : resOf o (pre ++ [x]) = resOf o pre ++ [n] := by
  unfold resOf at *
  rw [List.filterMap_append, List.eraseDups_append]
  simp only [List.filterMap_cons, h, List.filterMap_nil]
  rw [List.mem_eraseDups] at hm
  congr 1
  simp only [List.removeAll, List.filter_cons, List.filter_nil, List.elem_eq_mem, hm, decide_false, Bool.not_false, if_true]
  simp [List.eraseDups_cons]
theorem nodup_sub_length : ∀ {l m : List Int}, l.Nodup → (∀ x ∈ l, x ∈ m) → l.length ≤ m.length
  | [], _, _, _ => Nat.zero_le _
  | a :: l, m, hn, hs => by
    rw [List.nodup_cons] at hn
    have ha := hs a (by simp)
    have := nodup_sub_length (l := l) (m := m.erase a) hn.2 fun x hx => (List.mem_erase_of_ne (fun e => hn.1 (by rw [← e]; exact hx))).2 (hs x (by simp [hx]))
    rw [List.length_erase_of_mem ha] at this
    have : 0 < m.length := List.length_pos_of_mem ha
    simp; omega
theorem resOf_prefix {o : Ar} {pre all : List (List Int)} (h : pre <+: all) : (resOf o pre).length ≤ (resOf o all).length := by
  refine nodup_sub_length (nodup_eraseDups _) fun x hx => ?_
  unfold resOf at *
  rw [List.mem_eraseDups] at *
  obtain ⟨c, hc, hx⟩ := List.mem_filterMap.1 hx
  exact List.mem_filterMap.2 ⟨c, h.subset hc, hx⟩

/-- The operation that the table holds. -/
theorem ops_get {w : World} {M : Nat} (h : OpsMap w M) {s : ByteArray} (hs : s.size ≤ maxLen) {k : Nat} (hk : k ≤ maxLen) {o : Ar} (ho : arOf s.toList k = some o) :
    (Instr.lookup 56 (.map (some M)) (.agg #[.string s, .int .i64 k]) false).run Tryz.prog w = .ok (.func (.func (fnAr o)) #[] #[]) w := by
  obtain ⟨D, hown, _, hh, ha⟩ := h
  have hz : (zeroValue 54).run Tryz.prog w = .ok .nilFunc w := by kernel_rfl
  obtain ⟨v, ps, hrun, hv⟩ := hown.lookup sign_keyed Tryz.underlying56 hz (zd := .nil) (zp := []) rfl (keyS_of s k hs (i64_len hk))
  rw [(OpsMap.some hh ha ho).2] at hv
  rw [hrun, fnElem_inv hv]
theorem ops_grow {w w' : World} {M : Nat} (h : OpsMap w M) (hb : Below w.heap.size w w') : OpsMap w' M := by
  obtain ⟨D, h1, h2⟩ := h
  exact ⟨D, h1.kept (row := none) ⟨hb.os, hb.tape, hb.output, hb.size, fun k hk _ => hb.block k hk⟩ (by simp), h2⟩
end Go.Proofs.YtnobmffgchlijaaGreatDoor
