/- Package arith: what the expansion of a term owes; copies of choices; rows of rows of terms. -/
import Derived.Test.YtnobmffgchlijaaGreatDoorAg
import Derived.Test.YtnobmffgchlijaaGreatDoorAj
import Derived.WalkSpells
namespace Go.Proofs.YtnobmffgchlijaaGreatDoor
open Go.RowKit Go.Shelf
attribute [local go_sem] Oper.semAt_some

mutual
/-- The forms that a valid term without variables has. -/
def Tm.Wf : Tm → Prop
  | .mk k n s args => args.length ≤ 8 ∧ (k = 4 → 1 ≤ args.length) ∧ (k = 5 → ∃ o, arOf s.toList args.length = some o) ∧ (k = 6 → args.length = 2) ∧ (k = 1 → -2147483647 ≤ n ∧ n ≤ 2147483647) ∧ Tm.WfL args
def Tm.WfL : List Tm → Prop
  | [] => True
  | t :: ts => t.Wf ∧ Tm.WfL ts
end
theorem Tm.WfL_mem : ∀ {ts : List Tm} {t : Tm}, Tm.WfL ts → t ∈ ts → t.Wf
  | a :: ts, t, h, hm => by
    rcases List.mem_cons.1 hm with rfl | hm
    · exact h.1
    · exact Tm.WfL_mem h.2 hm

theorem sortI_length (l : List Int) : (sortI l).length = l.length := by unfold sortI; exact List.length_mergeSort _
theorem spanL_length (a b : Int) : (spanL a b).length = (b - a + 1).toNat := by unfold spanL; simp
theorem exp_le {t : Tm} {ts : List Tm} (h : t.exp = some ts) : ts.length ≤ 1000 := by
  obtain ⟨k, n, s, args⟩ := t
  by_cases h4 : k = 4
  · subst h4
    rw [Tm.exp_fun, Option.bind_eq_some_iff] at h
    obtain ⟨ls, _, h⟩ := h
    split at h
    · cases h; simpa
    · cases h
  · by_cases h5 : k = 5
    · subst h5
      rw [Tm.exp_op, Option.bind_eq_some_iff] at h
      obtain ⟨ls, _, h⟩ := h
      split at h
      · cases h
      · split at h
        · cases h; simpa [sortI_length]
        · cases h
    · by_cases h6 : k = 6
      · subst h6
        rw [Tm.exp_span, Option.bind_eq_some_iff] at h
        obtain ⟨ls, _, h⟩ := h
        split at h
        · split at h
          · cases h; simp [spanL_length]; omega
          · cases h
        · cases h; simp
      · rw [Tm.exp_leaf h4 h5 h6] at h
        cases h; simp

/-- What expanding a term leaves: its expansions in a new row, or a panic. -/
def ExpPost (t : Tm) (w : World) (e : Ending) (w' : World) : Prop :=
  (∃ ts v, t.exp = some ts ∧ e = .returned v ∧ Vals none w.heap.size w' v ts ∧ Below w.heap.size w w') ∨ (t.exp = none ∧ e = .panicked boom ∧ Below w.heap.size w w')
def ExpAt (t : Tm) : Prop := ∀ (c0 c1 c2 c3 : Value) (w : World), IsTm w.heap.size w c0 c1 c2 c3 t → t.Wf → Calls Tryz.prog 39 #[.agg #[c0, c1, c2, c3]] w (ExpPost t w)

/-- A slice of terms whose blocks are in a set. -/
def RowIn (ok : Nat → Prop) (w : World) (v : Value) (ts : List Tm) : Prop := ∃ (a : Option Addr) (cap : Nat), v = .slice a ts.length cap ∧ ts.length ≤ maxLen ∧ (ts ≠ [] → ∃ b off, a = some ⟨b, off, none⟩ ∧ ok b ∧ IsTmsIn ok w b off ts)
theorem RowIn.keep {ok ok' : Nat → Prop} {w w' : World} (h : ∀ b, ok b → ok' b ∧ w'.heap[b]? = w.heap[b]?) {v : Value} {ts : List Tm} (hr : RowIn ok w v ts) : RowIn ok' w' v ts := by
  obtain ⟨a, cap, hv, hl, hr⟩ := hr
  refine ⟨a, cap, hv, hl, fun hne => ?_⟩
  obtain ⟨b, off, ha, hb, hi⟩ := hr hne
  exact ⟨b, off, ha, (h b hb).1, hi.keep h hb⟩
theorem Vals.rowIn {base B : Nat} {w : World} {v : Value} {ts : List Tm} (h : Vals none base w v ts) (_ : B ≤ base) : RowIn (fun b => base ≤ b ∧ b < w.heap.size) w v ts := by
  obtain ⟨xs, ho, hh, _⟩ := h
  have ho' := ho
  obtain ⟨_, ⟨rfl, hn⟩ | ⟨g, cap, cur, rfl, hb, hg, hc, hm, _, _⟩⟩ := ho
  · refine ⟨none, 0, by rw [hn], by rw [hn]; exact Nat.zero_le _, fun hne => absurd (List.length_eq_zero_iff.1 hn) hne⟩
  · refine ⟨some ⟨g, 0, none⟩, cap, rfl, Nat.le_trans hc hm, fun _ => ⟨g, 0, rfl, ⟨hb, (Array.getElem?_eq_some_iff.1 hg).1⟩, ?_⟩⟩
    refine (HoldL.tms hh (off := 0) fun j u hu => ?_).cells (fun b hf => ⟨⟨hf.1, hf.2.1⟩, rfl⟩) rfl
    have := ho'.cells (g := g) rfl j u hu
    have hadd : (⟨g, 0, none⟩ : Addr).add j = ⟨g, j, none⟩ := by unfold Addr.add; split <;> simp_all
    rwa [hadd, show (⟨g, j, none⟩ : Addr) = ⟨g, 0 + j, none⟩ from by rw [Nat.zero_add]] at this

/-- A row of slices of terms that the call owns; what they lead to is not the row. -/
def ListsT (base : Nat) (w : World) (v : Value) (ls : List (List Tm)) : Prop :=
  ∃ vs : List Value, w.ownsRow base 30 1 v ls.length vs ∧ ∀ i (h : i < ls.length), ∃ u, vs[i]? = some u ∧ RowIn (fun b => base ≤ b ∧ b < w.heap.size ∧ v.ownBlock ≠ some b) w u ls[i]
theorem ListsT.nil (base : Nat) (w : World) : ListsT base w (.slice none 0 0) [] := ⟨[], World.ownsRow_nil _ _ _ _, fun i h => absurd h (by simp)⟩
theorem ListsT.grow {base : Nat} {w w' : World} {v : Value} {ls : List (List Tm)} (h : ListsT base w v ls) (hb : Below w.heap.size w w') : ListsT base w' v ls := by
  obtain ⟨vs, ho, hr⟩ := h
  refine ⟨vs, own_grown ho hb, fun i hi => ?_⟩
  obtain ⟨u, hu, hR⟩ := hr i hi
  exact ⟨u, hu, hR.keep fun b hf => ⟨⟨hf.1, Nat.lt_of_lt_of_le hf.2.1 hb.size, hf.2.2⟩, hb.block b hf.2.1⟩⟩
theorem ListsT.app {base : Nat} {w w' : World} {v v' u : Value} {ls : List (List Tm)} {vs : List Value} {ts : List Tm} (ho : w.ownsRow base 30 1 v ls.length vs)
    (hr : ∀ i (h : i < ls.length), ∃ u, vs[i]? = some u ∧ RowIn (fun b => base ≤ b ∧ b < w.heap.size ∧ v.ownBlock ≠ some b) w u ls[i]) (hu : RowIn (fun b => base ≤ b ∧ b < w.heap.size ∧ v.ownBlock ≠ some b) w u ts)
    (hown : w'.ownsRow base 30 1 v' (ls.length + 1) (vs ++ [u])) (hg : w.grownBy w' v.ownBlock) (hat : v'.ownBlock = v.ownBlock ∨ v'.ownBlock = some w.heap.size) : ListsT base w' v' (ls ++ [ts]) := by
  have hk : ∀ b, (base ≤ b ∧ b < w.heap.size ∧ v.ownBlock ≠ some b) → (base ≤ b ∧ b < w'.heap.size ∧ v'.ownBlock ≠ some b) ∧ w'.heap[b]? = w.heap[b]? := fun b hf =>
    ⟨⟨hf.1, Nat.lt_of_lt_of_le hf.2.1 hg.size, by
      rcases hat with e | e <;> rw [e]
      · exact hf.2.2
      · intro e'; cases e'; exact absurd hf.2.1 (by omega)⟩, hg.block b hf.2.1 (fun e => hf.2.2 e.symm)⟩
  have hvl : vs.length = ls.length := by have := ho.1; omega
  refine ⟨vs ++ [u], by simpa using hown, fun i hi => ?_⟩
  by_cases h : i < ls.length
  · obtain ⟨x, hx, hR⟩ := hr i h
    refine ⟨x, by rw [List.getElem?_append_left (by omega)]; exact hx, ?_⟩
    rw [List.getElem_append_left h]
    exact hR.keep hk
  · have hi' : i = ls.length := by simp at hi; omega
    subst hi'
    refine ⟨u, by rw [← hvl]; simp, ?_⟩
    rw [List.getElem_append_right (Nat.le_refl _)]
    simpa using hu.keep hk

theorem oneCells {ok : Nat → Prop} {w : World} : ∀ {ts : List Tm} {xs : List Value}, HoldL ok w xs ts → ∀ u ∈ xs, u.oneCell' = true
  | [], xs, h, u, hu => by rw [show xs = [] from h] at hu; cases hu
  | .mk k n s us :: ts, xs, ⟨c0, c1, c2, c3, r, e, ht, hr⟩, u, hu => by
    subst e
    simp only [IsTmIn] at ht
    obtain ⟨rfl, _, rfl, _, rfl, _, a, cap, rfl, _, _⟩ := ht
    simp only [List.mem_cons] at hu
    rcases hu with rfl | rfl | rfl | rfl | hu
    · rfl
    · rfl
    · rfl
    · rfl
    · exact oneCells hr u hu

set_option maxRecDepth 100000 in
set_option maxHeartbeats 1000000 in
theorem clone_any (g N : Nat) (xs : List Value) (hN : N ≤ 1000) (w : World) (ho : w.ownsRow 0 32 4 (.slice (some ⟨g, 0, none⟩) N N) N xs) (h1 : ∀ u ∈ xs, u.oneCell' = true) :
    Calls Tryz.prog 79 #[.slice (some ⟨g, 0, none⟩) N N] w fun e w' => ∃ v', e = .returned v' ∧ w'.ownsRow w.heap.size 32 4 v' N xs ∧ Below w.heap.size w w' := by
  obtain ⟨i0, hi, hz0, hz1, hz2⟩ := info_parts info_term
  have HO := Lib.hid ho
  have H1 := Lib.hid h1
  have hlg : g < w.heap.size := (ho.lt g rfl).2
  clear ho h1
  have hnil : ∀ w : World, (binOp .eql 30 (.slice (some ⟨g, 0, none⟩) N N) (.slice none 0 0)).run Tryz.prog w = .ok (.bool false) w := fun w => by
    simp only [binOp]; simp [Op.equal, Op.maxDepth, Lib.run_equalIn_slice_nil w 9999 30 32 (some ⟨g, 0, none⟩) N N 0 0 Tryz.underlying30]
  go_enter Tryz.func79, Tryz.ntmps79
  go_wp2_with (at_builtin; refine wpList_append_own _ rfl _ _ 30 rfl w.heap.size 32 i0 _ 4 56 Tryz.underlying30 hi hz0 hz1 hz2 rfl (by decide) _ 0 [] rfl ?c0 ⟨g, 0, none⟩ N N xs rfl HO.out.1 ?c1 H1.out ?c3 ?c4 ?c5 ?_)
  case c0 => exact World.ownsRow_made w #[] 0 (Nat.le_refl _) (by unfold maxLen; omega) rfl
  case c1 =>
    intro j u hu
    have := HO.out.cells (g := g) rfl j u hu
    have hadd : (⟨g, 0, none⟩ : Addr).add j = ⟨g, j, none⟩ := by unfold Addr.add; split <;> simp_all
    rw [hadd] at this ⊢
    rw [← this]
    exact cell_block (((Below.refl _ w).alloc (Nat.le_refl _) _).block g hlg)
  case c3 => unfold maxLen; omega
  case c4 => omega
  case c5 => simp
  intro v' w' hown hg hat
  go_wp2
  go_ret
  exact ⟨v', rfl, by simpa using hown, ((Below.refl _ w).alloc (Nat.le_refl _) _).trans ⟨hg.os, hg.tape, hg.output, hg.size, fun k hk => hg.block k (by simp; omega) (by simp [Value.ownBlock]; omega)⟩⟩
end Go.Proofs.YtnobmffgchlijaaGreatDoor
