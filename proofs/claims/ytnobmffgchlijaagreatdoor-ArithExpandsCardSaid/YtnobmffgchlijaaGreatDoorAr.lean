/- Package arith: Expand. -/
import Derived.Test.YtnobmffgchlijaaGreatDoorAq
import Derived.Test.YtnobmffgchlijaaGreatDoorVl
import Derived.Defers
import Derived.Recover
namespace Go.Proofs.YtnobmffgchlijaaGreatDoor
open Go.RowKit Go.Shelf
attribute [local go_sem] Oper.semAt_some

theorem catch_boom (P1 P2 : Nat) (hne : P1 ≠ P2) (a : Option Addr) (n c : Nat) (x : Int) (w : World) (h1 : Boxed w P1 30 (.slice a n c)) (h2 : Boxed w P2 35 (.int .i64 x)) :
    CallsD Tryz.prog 38 #[.pointer (some ⟨P1, 0, none⟩), .pointer (some ⟨P2, 0, none⟩)] (.panicking ({ v := .iface 35 (.int .i64 5), recovered := false } :: [])) w fun e u' w' =>
      e = .returned (.tuple #[]) ∧ u' = .panicking ({ v := .iface 35 (.int .i64 5), recovered := true } :: []) ∧ w' = (w.setCell ⟨P1, 0, none⟩ (.slice none 0 0)).setCell ⟨P2, 0, none⟩ (.int .i64 5) := by
  have c1 := h1.cell
  have f1 := h1.frozen
  have h2' := h2.other hne.symm (.slice none 0 0)
  have c2 := h2'.cell
  have f2 := h2'.frozen
  refine callsD_of_wpS Tryz.func38 rfl fun c₀ cs hu => ?_
  apply wpS_seq
  apply wpS_region
  simp [wpOpsS, go_sem, recoverD, hu, Tryz.ntmps38, Exit.thenS]
  refine wpS_cond (t := true) (by simp [Act.eval, Array.replicate]) ?_
  simp only [if_true]
  apply wpS_region
  simp [wpOpsS, go_sem, c1, f1, c2, f2, bodyPostS, results, Tryz.results38]

theorem catch_idle (P1 P2 : Nat) (w : World) :
    CallsD Tryz.prog 38 #[.pointer (some ⟨P1, 0, none⟩), .pointer (some ⟨P2, 0, none⟩)] .returning w fun e u' w' => e = .returned (.tuple #[]) ∧ u' = .returning ∧ w' = w := by
  refine callsD_of_wpS Tryz.func38 rfl fun c₀ cs hu => ?_
  apply wpS_seq
  apply wpS_region
  simp [wpOpsS, go_sem, recoverD, hu, Tryz.ntmps38, Exit.thenS]
  refine wpS_cond (t := false) (by simp [Act.eval, Array.replicate]) ?_
  simp only [Bool.false_eq_true, if_false]
  refine wpS_of_wp (Go.wp_skip ?_)
  cases c₀
  simp_all [bodyPostS, results, Tryz.results38]

theorem oper_ar {s : ByteArray} {m : Nat} (h : operB s m = true) : m ≤ 2 ∧ ∃ o, arOf s.toList m = some o := by
  unfold operB at h
  split at h
  · rename_i h1
    have h1 : s.toList = [45] := by simpa using h1
    simp only [Bool.or_eq_true, decide_eq_true_eq] at h
    rcases h with rfl | rfl
    · exact ⟨by omega, .neg, by rw [h1]; rfl⟩
    · exact ⟨by omega, .sub, by rw [h1]; rfl⟩
  · simp only [Bool.and_eq_true, Bool.or_eq_true, decide_eq_true_eq, beq_iff_eq] at h
    obtain ⟨h1, rfl⟩ := h
    refine ⟨by omega, ?_⟩
    rcases h1 with ((h1 | h1) | h1) | h1 <;> rw [h1]
    · exact ⟨.add, rfl⟩
    · exact ⟨.mul, rfl⟩
    · exact ⟨.quo, rfl⟩
    · exact ⟨.rem, rfl⟩
theorem req_wf {k n : Int} {s : ByteArray} {m : Nat} (h : reqB k n s m = true) : m ≤ 8 ∧ (k = 4 → 1 ≤ m) ∧ (k = 5 → ∃ o, arOf s.toList m = some o) ∧ (k = 6 → m = 2) ∧ (k = 1 → -2147483647 ≤ n ∧ n ≤ 2147483647) := by
  unfold reqB at h
  by_cases k1 : k = 1
  · rw [if_pos k1] at h
    simp only [Bool.and_eq_true, decide_eq_true_eq] at h
    exact ⟨by omega, fun e => by omega, fun e => by omega, fun e => by omega, fun _ => ⟨h.1.1.1, h.1.1.2⟩⟩
  rw [if_neg k1] at h
  by_cases k2 : k = 2
  · rw [if_pos k2] at h
    simp only [Bool.and_eq_true, decide_eq_true_eq] at h
    exact ⟨by omega, fun e => by omega, fun e => by omega, fun e => by omega, fun e => by omega⟩
  rw [if_neg k2] at h
  by_cases k3 : k = 3
  · rw [if_pos k3] at h
    simp only [Bool.and_eq_true, decide_eq_true_eq] at h
    exact ⟨by omega, fun e => by omega, fun e => by omega, fun e => by omega, fun e => by omega⟩
  rw [if_neg k3] at h
  by_cases k4 : k = 4
  · rw [if_pos k4] at h
    simp only [Bool.and_eq_true, decide_eq_true_eq] at h
    exact ⟨by omega, fun e => by omega, fun e => by omega, fun e => by omega, fun e => by omega⟩
  rw [if_neg k4] at h
  by_cases k5 : k = 5
  · rw [if_pos k5] at h
    simp only [Bool.and_eq_true, decide_eq_true_eq] at h
    have := oper_ar h.2
    exact ⟨by omega, fun e => by omega, fun _ => this.2, fun e => by omega, fun e => by omega⟩
  rw [if_neg k5] at h
  by_cases k6 : k = 6
  · rw [if_pos k6] at h
    simp only [Bool.and_eq_true, decide_eq_true_eq] at h
    exact ⟨by omega, fun e => by omega, fun e => by omega, fun e => by omega, fun e => by omega⟩
  rw [if_neg k6] at h
  cases h
mutual
theorem wf_of : ∀ (t : Tm) (l : Nat), (t.nodes l).all nodeOkB = true → t.Wf ∧ t.WfL8
  | .mk k n s args, l, h => by
    simp only [Tm.nodes, List.all_cons, Bool.and_eq_true] at h
    have h1 := h.1
    unfold nodeOkB at h1
    rw [Bool.and_eq_true] at h1
    have hr := req_wf h1.2
    simp only [Tm.args, Tm.name] at hr
    have hl := wfL_of args (l + 1) h.2
    simp only [Tm.Wf, Tm.WfL8]
    exact ⟨⟨hr.1, hr.2.1, hr.2.2.1, hr.2.2.2.1, hr.2.2.2.2, hl.1⟩, hr.1, hl.2⟩
theorem wfL_of : ∀ (ts : List Tm) (l : Nat), (Tm.nodesL l ts).all nodeOkB = true → Tm.WfL ts ∧ Tm.WfL8L ts
  | [], _, _ => by simp only [Tm.WfL, Tm.WfL8L]; exact ⟨trivial, trivial⟩
  | t :: ts, l, h => by
    simp only [Tm.nodesL, List.all_append, Bool.and_eq_true] at h
    have h1 := wf_of t l h.1
    have h2 := wfL_of ts l h.2
    simp only [Tm.WfL, Tm.WfL8L]
    exact ⟨⟨h1.1, h2.1⟩, h1.2, h2.2⟩
end
theorem valid_wf {t : Tm} (h : t.validB = true) : t.Wf ∧ t.WfL8 := wf_of t 1 h
end Go.Proofs.YtnobmffgchlijaaGreatDoor
