/- The reference's Valid of an atom. -/
import Derived.Test.YtcoieohbmkjpoaaGreatDoorB1c
import Derived.Test.YtcoieohbmkjpoaaGreatDoorB1S6
import Derived.Deep.LoopGhost
namespace Go.Proofs.YtcoieohbmkjpoaaGreatDoor
open Go.RowKit Go.Shelf

/-- A term's row, as the reference asks for values. -/
def shpB (k n : Int) (s : ByteArray) (m : Nat) : Bool := (decide (k = 1) || decide (k = 2) || decide (k = 4)) && reqB k n s m
mutual
def Tm.allR : Tm → Bool
  | .mk k n s us => shpB k n s us.length && Tm.allRL us
def Tm.allRL : List Tm → Bool
  | [] => true
  | t :: ts => Tm.allR t && Tm.allRL ts
end
def nodeR (x : Tm × Nat) : Bool := nodeOkB x && plainB x
theorem nodeR_iff (k n : Int) (s : ByteArray) (us : List Tm) (l : Nat) : nodeR (.mk k n s us, l) = true ↔ shpB k n s us.length = true ∧ l ≤ 12 := by
  simp only [nodeR, nodeOkB, plainB, shpB, Tm.kind, Tm.num, Tm.name, Tm.args, Bool.and_eq_true, decide_eq_true_eq]
  exact ⟨fun h => ⟨⟨h.2, h.1.2⟩, h.1.1⟩, fun h => ⟨⟨h.2, h.1.2⟩, h.1.1⟩⟩
mutual
theorem all_nodes : ∀ (t : Tm) (l : Nat), (t.nodes l).all nodeR = true ↔ (t.allR = true ∧ t.depth + l ≤ 13)
  | .mk k n s us, l => by
    have h := all_nodesL us (l + 1)
    rw [Tm.nodes, List.all_cons, Bool.and_eq_true, nodeR_iff, Tm.allR, Tm.depth, Bool.and_eq_true]
    constructor
    · rintro ⟨⟨h1, h2⟩, h3⟩
      have := h.1 ⟨h3, by omega⟩
      exact ⟨⟨h1, this.1⟩, by omega⟩
    · rintro ⟨⟨h1, h2⟩, h3⟩
      have := h.2 ⟨h2, by omega⟩
      exact ⟨⟨h1, by omega⟩, this.1⟩
theorem all_nodesL : ∀ (ts : List Tm) (l : Nat), ((Tm.nodesL l ts).all nodeR = true ∧ l ≤ 13) ↔ (Tm.allRL ts = true ∧ Tm.depthL ts + l ≤ 13)
  | [], l => by
    rw [Tm.nodesL, Tm.allRL, Tm.depthL]
    simp
  | t :: ts, l => by
    have h1 := all_nodes t l
    have h2 := all_nodesL ts l
    rw [Tm.nodesL, List.all_append, Tm.allRL, Tm.depthL, Bool.and_eq_true, Bool.and_eq_true]
    constructor
    · rintro ⟨⟨a, b⟩, c⟩
      have p := h1.1 a
      have q := h2.1 ⟨b, c⟩
      exact ⟨⟨p.1, q.1⟩, by omega⟩
    · rintro ⟨⟨a, b⟩, c⟩
      have p := h1.2 ⟨a, by omega⟩
      have q := h2.2 ⟨b, by omega⟩
      exact ⟨⟨p, q.1⟩, q.2⟩
end
theorem valueB_ref (t : Tm) : t.valueB = (decide (t.depth ≤ 12) && t.allR) := by
  have h := all_nodes t 1
  have e : t.valueB = (t.nodes 1).all nodeR := by
    unfold Tm.valueB Tm.validB
    induction t.nodes 1 with
    | nil => rfl
    | cons x xs ih =>
      simp only [List.all_cons]
      rw [← ih]
      unfold nodeR
      cases nodeOkB x <;> cases plainB x <;> cases xs.all nodeOkB <;> cases xs.all plainB <;> rfl
  rw [e, Bool.eq_iff_iff, h, Bool.and_eq_true, decide_eq_true_iff]
  exact ⟨fun h => ⟨by omega, h.1⟩, fun h => ⟨h.2, by omega⟩⟩
/-- What the reference's shape tells. -/
def ShpR (k n : Int) (s : ByteArray) (m : Nat) (w : World) (e : Ending) (w' : World) : Prop := ∃ b : Bool, e = .returned (.bool b) ∧ (k = 1 ∨ k = 2 ∨ k = 4 → b = reqB k n s m) ∧ (k = 0 → b = false) ∧ Below w.heap.size w w'
set_option maxRecDepth 100000 in
set_option maxHeartbeats 8000000 in
theorem rshape_any (k n : Int) (s : ByteArray) (a : Option Addr) (m cap : Nat) (w : World) (hs : s.size ≤ maxLen) (hm : m ≤ maxLen) :
    Calls Tryz.prog 111 #[.agg #[.int .u8 k, .int .i64 n, .string s, .slice a m cap]] w (ShpR k n s m w) := by
  obtain ⟨W1, hW1, hq, hb1⟩ : ∃ W1, w.alloc (.cells #[.int .u8 k, .int .i64 n, .string s, .slice a m cap] 46) = W1 ∧ W1.heap[w.heap.size]? = some (.cells #[.int .u8 k, .int .i64 n, .string s, .slice a m cap] 46 (0, 0)) ∧ Below w.heap.size w W1 :=
    ⟨_, rfl, World.alloc_heap_new _ _, (Below.refl _ _).alloc (Nat.le_refl _) _⟩
  have q0 := cells_at hq 0 _ rfl
  have q1 := cells_at hq 1 _ rfl
  have q2 := cells_at hq 2 _ rfl
  have q3 := cells_at hq 3 _ rfl
  have HB := Lib.hid hb1
  have HSY := Lib.hid (rsymbol_any s W1 hs)
  have HVA := Lib.hid (rvariable_any s W1 hs)
  have HR1 := Lib.hid (show reqB 1 n s m = (decide (-2147483647 ≤ n) && decide (n ≤ 2147483647) && s.toList.isEmpty && decide (m = 0)) from rfl)
  have HR2 := Lib.hid (show reqB 2 n s m = (decide (n = 0) && decide (m = 0) && symbolB s) from rfl)
  have HR4 := Lib.hid (show reqB 4 n s m = (decide (n = 0) && decide (1 ≤ m) && decide (m ≤ 8) && symbolB s) from rfl)
  unfold maxLen at hm
  clear hq hb1
  by_cases k1 : k = 1
  · subst k1
    by_cases h1 : -2147483647 ≤ n
    rotate_left
    · have H1 := Lib.hid h1
      have HRQ := Lib.hid (show reqB 1 n s m = false by rw [HR1.out, decide_eq_false H1.out]; first | done | rfl | simp)
      go_enter Tryz.func111, Tryz.ntmps111
      go_wp2
      go_ret
      exact ⟨_, rfl, (fun _ => by first | exact HRQ.out.symm | (rw [HRQ.out]; have := H5.out; simp; omega) | (rw [HRQ.out]; have := H4.out; simp; omega)), (fun e => by omega), HB.out⟩
    by_cases h2 : n ≤ 2147483647
    rotate_left
    · have H2 := Lib.hid h2
      have HRQ := Lib.hid (show reqB 1 n s m = false by rw [HR1.out, decide_eq_false H2.out, Bool.and_false]; first | done | rfl | simp)
      go_enter Tryz.func111, Tryz.ntmps111
      go_wp2
      go_ret
      exact ⟨_, rfl, (fun _ => by first | exact HRQ.out.symm | (rw [HRQ.out]; have := H5.out; simp; omega) | (rw [HRQ.out]; have := H4.out; simp; omega)), (fun e => by omega), HB.out⟩
    cases h3 : s.toList.isEmpty
    · have H3 := Lib.hid h3
      have HRQ := Lib.hid (show reqB 1 n s m = false by rw [HR1.out, H3.out, Bool.and_false]; first | done | rfl | simp)
      go_enter Tryz.func111, Tryz.ntmps111
      go_wp2
      go_ret
      exact ⟨_, rfl, (fun _ => by first | exact HRQ.out.symm | (rw [HRQ.out]; have := H5.out; simp; omega) | (rw [HRQ.out]; have := H4.out; simp; omega)), (fun e => by omega), HB.out⟩
    by_cases h4 : m = 0
    rotate_left
    · have H4 := Lib.hid h4
      have h5 : ((m : Int) == 0) = false := by simpa using h4
      have HRQ := Lib.hid (show reqB 1 n s m = false by rw [HR1.out, decide_eq_false H4.out, Bool.and_false]; first | done | rfl | simp)
      go_enter Tryz.func111, Tryz.ntmps111
      go_wp2
      go_ret
      exact ⟨_, rfl, (fun _ => by first | exact HRQ.out.symm | (rw [HRQ.out]; have := H5.out; simp; omega) | (rw [HRQ.out]; have := H4.out; simp; omega)), (fun e => by omega), HB.out⟩
    subst h4
    have H1 := Lib.hid h1
    have H2 := Lib.hid h2
    have H3 := Lib.hid h3
    have HRQ := Lib.hid (show reqB 1 n s 0 = true by rw [HR1.out, decide_eq_true H1.out, decide_eq_true H2.out, H3.out]; first | done | rfl | simp)
    go_enter Tryz.func111, Tryz.ntmps111
    go_wp2
    go_ret
    exact ⟨_, rfl, (fun _ => by first | exact HRQ.out.symm | (rw [HRQ.out]; have := H5.out; simp; omega) | (rw [HRQ.out]; have := H4.out; simp; omega)), (fun e => by omega), HB.out⟩
  have k1' : (k == 1) = false := by simpa using k1
  by_cases k2 : k = 2
  · subst k2
    clear k1 k1'
    by_cases h1 : n = 0
    rotate_left
    · have H1 := Lib.hid h1
      have h6 : (n == 0) = false := by simpa using h1
      have HRQ := Lib.hid (show reqB 2 n s m = false by rw [HR2.out, decide_eq_false H1.out]; first | done | rfl | simp)
      go_enter Tryz.func111, Tryz.ntmps111
      go_wp2
      go_ret
      exact ⟨_, rfl, (fun _ => by first | exact HRQ.out.symm | (rw [HRQ.out]; have := H5.out; simp; omega) | (rw [HRQ.out]; have := H4.out; simp; omega)), (fun e => by omega), HB.out⟩
    subst h1
    cases h3 : symbolB s
    · rw [h3] at HSY
      have H3 := Lib.hid h3
      have HRQ := Lib.hid (show reqB 2 0 s m = false by rw [HR2.out, H3.out, Bool.and_false]; first | done | rfl | simp)
      go_enter Tryz.func111, Tryz.ntmps111
      go_wp2_with (go_at_call 41; refine HSY.out.mono ?_; rintro e w' ⟨rfl, rfl⟩)
      go_ret
      exact ⟨_, rfl, (fun _ => by first | exact HRQ.out.symm | (rw [HRQ.out]; have := H5.out; simp; omega) | (rw [HRQ.out]; have := H4.out; simp; omega)), (fun e => by omega), HB.out⟩
    rw [h3] at HSY
    have H3 := Lib.hid h3
    by_cases h4 : m = 0
    rotate_left
    · have H4 := Lib.hid h4
      have h5 : ((m : Int) == 0) = false := by simpa using h4
      have HRQ := Lib.hid (show reqB 2 0 s m = false by rw [HR2.out, decide_eq_false H4.out, Bool.and_false]; first | done | rfl | simp)
      go_enter Tryz.func111, Tryz.ntmps111
      go_wp2_with (go_at_call 41; refine HSY.out.mono ?_; rintro e w' ⟨rfl, rfl⟩)
      go_ret
      exact ⟨_, rfl, (fun _ => by first | exact HRQ.out.symm | (rw [HRQ.out]; have := H5.out; simp; omega) | (rw [HRQ.out]; have := H4.out; simp; omega)), (fun e => by omega), HB.out⟩
    subst h4
    have HRQ := Lib.hid (show reqB 2 0 s 0 = true by rw [HR2.out, H3.out]; first | done | rfl | simp)
    go_enter Tryz.func111, Tryz.ntmps111
    go_wp2_with (go_at_call 41; refine HSY.out.mono ?_; rintro e w' ⟨rfl, rfl⟩)
    go_ret
    exact ⟨_, rfl, (fun _ => by first | exact HRQ.out.symm | (rw [HRQ.out]; have := H5.out; simp; omega) | (rw [HRQ.out]; have := H4.out; simp; omega)), (fun e => by omega), HB.out⟩
  have k2' : (k == 2) = false := by simpa using k2
  by_cases k3 : k = 3
  · subst k3
    clear k1 k1' k2 k2'
    by_cases h1 : n = 0
    rotate_left
    · have H1 := Lib.hid h1
      have h6 : (n == 0) = false := by simpa using h1
      go_enter Tryz.func111, Tryz.ntmps111
      go_wp2
      go_ret
      exact ⟨_, rfl, (fun h => by omega), (fun e => by omega), HB.out⟩
    subst h1
    cases h3 : variableB s
    · rw [h3] at HVA
      have H3 := Lib.hid h3
      go_enter Tryz.func111, Tryz.ntmps111
      go_wp2_with (go_at_call 154; refine HVA.out.mono ?_; rintro e w' ⟨rfl, rfl⟩)
      go_ret
      exact ⟨_, rfl, (fun h => by omega), (fun e => by omega), HB.out⟩
    rw [h3] at HVA
    have H3 := Lib.hid h3
    by_cases h4 : m = 0
    rotate_left
    · have H4 := Lib.hid h4
      have h5 : ((m : Int) == 0) = false := by simpa using h4
      go_enter Tryz.func111, Tryz.ntmps111
      go_wp2_with (go_at_call 154; refine HVA.out.mono ?_; rintro e w' ⟨rfl, rfl⟩)
      go_ret
      exact ⟨_, rfl, (fun h => by omega), (fun e => by omega), HB.out⟩
    subst h4
    go_enter Tryz.func111, Tryz.ntmps111
    go_wp2_with (go_at_call 154; refine HVA.out.mono ?_; rintro e w' ⟨rfl, rfl⟩)
    go_ret
    exact ⟨_, rfl, (fun h => by omega), (fun e => by omega), HB.out⟩
  have k3' : (k == 3) = false := by simpa using k3
  by_cases k4 : k = 4
  · subst k4
    clear k1 k1' k2 k2' k3 k3'
    by_cases h1 : n = 0
    rotate_left
    · have H1 := Lib.hid h1
      have h6 : (n == 0) = false := by simpa using h1
      have HRQ := Lib.hid (show reqB 4 n s m = false by rw [HR4.out, decide_eq_false H1.out]; first | done | rfl | simp)
      go_enter Tryz.func111, Tryz.ntmps111
      go_wp2
      go_ret
      exact ⟨_, rfl, (fun _ => by first | exact HRQ.out.symm | (rw [HRQ.out]; have := H5.out; simp; omega) | (rw [HRQ.out]; have := H4.out; simp; omega)), (fun e => by omega), HB.out⟩
    subst h1
    cases h3 : symbolB s
    · rw [h3] at HSY
      have H3 := Lib.hid h3
      have HRQ := Lib.hid (show reqB 4 0 s m = false by rw [HR4.out, H3.out, Bool.and_false]; first | done | rfl | simp)
      go_enter Tryz.func111, Tryz.ntmps111
      go_wp2_with (go_at_call 41; refine HSY.out.mono ?_; rintro e w' ⟨rfl, rfl⟩)
      go_ret
      exact ⟨_, rfl, (fun _ => by first | exact HRQ.out.symm | (rw [HRQ.out]; have := H5.out; simp; omega) | (rw [HRQ.out]; have := H4.out; simp; omega)), (fun e => by omega), HB.out⟩
    rw [h3] at HSY
    have H3 := Lib.hid h3
    by_cases h4 : 1 ≤ m
    rotate_left
    · have H4 := Lib.hid h4
      have h7 : ¬ (1 : Int) ≤ (m : Int) := by omega
      clear h4
      have HRQ := Lib.hid (show reqB 4 0 s m = false by rw [HR4.out, decide_eq_false H4.out, Bool.and_false]; first | done | rfl | simp)
      go_enter Tryz.func111, Tryz.ntmps111
      go_wp2_with (go_at_call 41; refine HSY.out.mono ?_; rintro e w' ⟨rfl, rfl⟩)
      go_ret
      exact ⟨_, rfl, (fun _ => by first | exact HRQ.out.symm | (rw [HRQ.out]; have := H5.out; simp; omega) | (rw [HRQ.out]; have := H4.out; simp; omega)), (fun e => by omega), HB.out⟩
    have h7 : (1 : Int) ≤ (m : Int) := by omega
    have H4 := Lib.hid h4
    by_cases h5 : m ≤ 8
    rotate_left
    · have H5 := Lib.hid h5
      have h8 : ¬ (m : Int) ≤ 8 := by omega
      clear h4 h5
      have HRQ := Lib.hid (show reqB 4 0 s m = false by rw [HR4.out, decide_eq_false H5.out, Bool.and_false]; first | done | rfl | simp)
      go_enter Tryz.func111, Tryz.ntmps111
      go_wp2_with (go_at_call 41; refine HSY.out.mono ?_; rintro e w' ⟨rfl, rfl⟩)
      go_ret
      exact ⟨_, rfl, (fun _ => by first | exact HRQ.out.symm | (rw [HRQ.out]; have := H5.out; simp; omega) | (rw [HRQ.out]; have := H4.out; simp; omega)), (fun e => by omega), HB.out⟩
    have h8 : (m : Int) ≤ 8 := by omega
    have H5 := Lib.hid h5
    clear h4 h5
    have HRQ := Lib.hid (show reqB 4 0 s m = true by rw [HR4.out, decide_eq_true H4.out, decide_eq_true H5.out, H3.out]; first | done | rfl | simp)
    go_enter Tryz.func111, Tryz.ntmps111
    go_wp2_with (go_at_call 41; refine HSY.out.mono ?_; rintro e w' ⟨rfl, rfl⟩)
    go_ret
    exact ⟨_, rfl, (fun _ => by first | exact HRQ.out.symm | (rw [HRQ.out]; have := H5.out; simp; omega) | (rw [HRQ.out]; have := H4.out; simp; omega)), (fun e => by omega), HB.out⟩
  have k4' : (k == 4) = false := by simpa using k4
  by_cases k5 : k = 5
  · subst k5
    clear k1 k1' k2 k2' k3 k3' k4 k4'
    have hc : ((s.toList == [43]) = true ∧ (s.toList == [45]) = false) ∨ ((s.toList == [43]) = false ∧ (s.toList == [45]) = true) ∨ ((s.toList == [43]) = false ∧ (s.toList == [45]) = false ∧ (s.toList == [42]) = true) ∨ ((s.toList == [43]) = false ∧ (s.toList == [45]) = false ∧ (s.toList == [42]) = false ∧ (s.toList == [47]) = true) ∨ ((s.toList == [43]) = false ∧ (s.toList == [45]) = false ∧ (s.toList == [42]) = false ∧ (s.toList == [47]) = false ∧ (s.toList == [92]) = true) ∨ ((s.toList == [43]) = false ∧ (s.toList == [45]) = false ∧ (s.toList == [42]) = false ∧ (s.toList == [47]) = false ∧ (s.toList == [92]) = false) := by
      by_cases h1 : s.toList = [43]
      · left; rw [h1]; exact ⟨rfl, rfl⟩
      have g1 : (s.toList == [43]) = false := by simpa using h1
      by_cases h2 : s.toList = [45]
      · right; left; rw [h2]; exact ⟨rfl, rfl⟩
      have g2 : (s.toList == [45]) = false := by simpa using h2
      rw [g1, g2]
      cases (s.toList == [42]) <;> cases (s.toList == [47]) <;> cases (s.toList == [92]) <;> simp
    by_cases h1 : n = 0
    rotate_left
    · have h6 : (n == 0) = false := by simpa using h1
      rcases hc with ⟨e1, e2⟩ | ⟨e1, e2⟩ | ⟨e1, e2, e3⟩ | ⟨e1, e2, e3, e4⟩ | ⟨e1, e2, e3, e4, e5⟩ | ⟨e1, e2, e3, e4, e5⟩
      all_goals
        go_enter Tryz.func111, Tryz.ntmps111
        go_wp2
        go_ret
        exact ⟨_, rfl, (fun h => by omega), (fun e => by omega), HB.out⟩
    subst h1
    rcases hc with ⟨e1, e2⟩ | ⟨e1, e2⟩ | ⟨e1, e2, e3⟩ | ⟨e1, e2, e3, e4⟩ | ⟨e1, e2, e3, e4, e5⟩ | ⟨e1, e2, e3, e4, e5⟩
    · cases e6 : ((m : Int) == 2)
      all_goals
        go_enter Tryz.func111, Tryz.ntmps111
        go_wp2
        go_ret
        exact ⟨_, rfl, (fun h => by omega), (fun e => by omega), HB.out⟩
    · cases e6 : ((m : Int) == 2)
      · cases e7 : ((m : Int) == 1)
        all_goals
          go_enter Tryz.func111, Tryz.ntmps111
          go_wp2
          go_ret
          exact ⟨_, rfl, (fun h => by omega), (fun e => by omega), HB.out⟩
      · skip
        go_enter Tryz.func111, Tryz.ntmps111
        go_wp2
        go_ret
        exact ⟨_, rfl, (fun h => by omega), (fun e => by omega), HB.out⟩
    · cases e6 : ((m : Int) == 2)
      all_goals
        go_enter Tryz.func111, Tryz.ntmps111
        go_wp2
        go_ret
        exact ⟨_, rfl, (fun h => by omega), (fun e => by omega), HB.out⟩
    · cases e6 : ((m : Int) == 2)
      all_goals
        go_enter Tryz.func111, Tryz.ntmps111
        go_wp2
        go_ret
        exact ⟨_, rfl, (fun h => by omega), (fun e => by omega), HB.out⟩
    · cases e6 : ((m : Int) == 2)
      all_goals
        go_enter Tryz.func111, Tryz.ntmps111
        go_wp2
        go_ret
        exact ⟨_, rfl, (fun h => by omega), (fun e => by omega), HB.out⟩
    · skip
      go_enter Tryz.func111, Tryz.ntmps111
      go_wp2
      go_ret
      exact ⟨_, rfl, (fun h => by omega), (fun e => by omega), HB.out⟩
  have k5' : (k == 5) = false := by simpa using k5
  by_cases k6 : k = 6
  · subst k6
    clear k1 k1' k2 k2' k3 k3' k4 k4' k5 k5'
    by_cases h1 : n = 0
    rotate_left
    · have h6 : (n == 0) = false := by simpa using h1
      go_enter Tryz.func111, Tryz.ntmps111
      go_wp2
      go_ret
      exact ⟨_, rfl, (fun h => by omega), (fun e => by omega), HB.out⟩
    subst h1
    cases e1 : s.toList.isEmpty
    · skip
      go_enter Tryz.func111, Tryz.ntmps111
      go_wp2
      go_ret
      exact ⟨_, rfl, (fun h => by omega), (fun e => by omega), HB.out⟩
    cases e6 : ((m : Int) == 2)
    all_goals
      go_enter Tryz.func111, Tryz.ntmps111
      go_wp2
      go_ret
      exact ⟨_, rfl, (fun h => by omega), (fun e => by omega), HB.out⟩
  have k6' : (k == 6) = false := by simpa using k6
  have HN := Lib.hid (show ¬ (k = 1 ∨ k = 2 ∨ k = 4) by omega)
  clear k1 k2 k3 k4 k5 k6
  go_enter Tryz.func111, Tryz.ntmps111
  go_wp2
  go_ret
  exact ⟨_, rfl, fun h => absurd h HN.out, fun _ => rfl, HB.out⟩
set_option maxRecDepth 100000 in
set_option maxHeartbeats 8000000 in
theorem rall_any (t : Tm) : ∀ (c0 c1 c2 c3 : Value) (w : World), IsTm w.heap.size w c0 c1 c2 c3 t →
    Calls Tryz.prog 78 #[.agg #[c0, c1, c2, c3], .int .u8 4, .int .u8 3] w fun e w' => e = .returned (.bool t.allR) ∧ Below w.heap.size w w' := by
  induction t using Tm.ind with
  | h k n s us ih =>
    intro c0 c1 c2 c3 w h
    simp only [IsTm] at h
    obtain ⟨rfl, hk0, rfl, z2, rfl, hsz, a, cap, rfl, hl, hr⟩ := h
    clear z2
    obtain ⟨R, hR⟩ : ∃ R, Tm.allR (.mk k n s us) = R := ⟨_, rfl⟩
    rw [hR]
    rw [Tm.allR] at hR
    have HRE := Lib.hid hR
    clear hR
    obtain ⟨W1, hW1, hq, hb1⟩ : ∃ W1, w.alloc (.cells #[.int .u8 k, .int .i64 n, .string s, .slice a us.length cap] 46) = W1 ∧ W1.heap[w.heap.size]? = some (.cells #[.int .u8 k, .int .i64 n, .string s, .slice a us.length cap] 46 (0, 0)) ∧ Below w.heap.size w W1 :=
      ⟨_, rfl, World.alloc_heap_new _ _, (Below.refl _ _).alloc (Nat.le_refl _) _⟩
    have HSH := Lib.hid (rshape_any k n s a us.length cap W1 hsz hl)
    have HR := Lib.hid hr
    have HQ := Lib.hid hq
    have HB1 := Lib.hid hb1
    have HIH := Lib.hid ih
    have hlen : us.length ≤ 9223372036854775807 := by unfold maxLen at hl; exact hl
    have q0 := cells_at hq 0 _ rfl
    have q1 := cells_at hq 1 _ rfl
    have q2 := cells_at hq 2 _ rfl
    have q3 := cells_at hq 3 _ rfl
    clear hr hq hb1 hl ih hsz
    go_enter Tryz.func78, Tryz.ntmps78
    go_wp2_with (go_at_call 111; refine HSH.out.mono ?_)
    clear HSH q0 q1 q2 q3 hW1
    rintro e w2 ⟨b, rfl, hb, hb0, hB2⟩
    have hR := HRE.out
    clear HRE
    have HB2 := Lib.hid hB2
    have hq2 := (hB2.block w.heap.size (Array.getElem?_eq_some_iff.1 HQ.out).1).trans HQ.out
    have q0 := cells_at hq2 0 _ rfl
    have q3 := cells_at hq2 3 _ rfl
    have HQ2 := Lib.hid hq2
    clear hB2 hq2
    by_cases hkk : k = 1 ∨ k = 2 ∨ k = 4
    · have e1 := hb hkk
      have e2 : shpB k n s us.length = b := by
        rw [e1]
        unfold shpB
        rw [show (decide (k = 1) || decide (k = 2) || decide (k = 4)) = true by rcases hkk with h | h | h <;> simp [h], Bool.true_and]
      have i4 : ¬ (4 : Int) < k := by omega
      have i3 : (k == 3) = false := by simp; omega
      rw [e2] at hR
      clear e1 e2 hb hb0 hkk
      cases b with
      | false =>
        rw [Bool.false_and] at hR
        subst hR
        go_wp2
        go_ret
        exact ⟨rfl, HB1.out.trans (HB2.out.mono HB1.out.size)⟩
      | true =>
        rw [Bool.true_and] at hR
        have HRR := Lib.hid hR
        clear hR
        go_wp2_with fail
        go_loopw [7] (fun i wr => ∃ j : Nat, j ≤ us.length ∧ i = .int .i64 j ∧ Tm.allRL (us.drop j) = R ∧ Below w2.heap.size w2 wr) (fun i _ => us.length - (intOf i).toNat)
        case atStart => exact ⟨0, Nat.zero_le _, by go_num, by simpa using HRR.out, Below.refl _ _⟩
        case round =>
          obtain ⟨j, hj, rfl, hv, hB⟩ := hrel
          clear q0 q3
          have hq3 := (hB.block w.heap.size (Array.getElem?_eq_some_iff.1 HQ2.out).1).trans HQ2.out
          have q3 := cells_at hq3 3 _ rfl
          have HB3 := Lib.hid hB
          clear hq3
          by_cases hlt : j < us.length
          · rw [List.drop_eq_getElem_cons hlt, Tm.allRL] at hv
            obtain ⟨g, off, rfl, hg, hi⟩ := HR.out (by intro e; rw [e] at hlt; simp at hlt)
            have hB0 : Below w.heap.size w wr := HB1.out.trans ((HB2.out.trans (hB.mono HB2.out.size)).mono HB1.out.size)
            obtain ⟨x0, x1, x2, x3, y0, y1, y2, y3, ht⟩ := (hi.below hB0 hg).at j hlt
            have hI := HIH.out us[j] (List.getElem_mem hlt) x0 x1 x2 x3 wr (ht.mono hB0.size)
            obtain ⟨b2, hb2⟩ : ∃ b, us[j].allR = b := ⟨_, rfl⟩
            rw [hb2] at hv hI
            have HI := Lib.hid hI
            have i1 : (0 : Int) ≤ (j : Int) := by omega
            have i2 : (j : Int) < (us.length : Int) := by omega
            have HB0 := Lib.hid hB0
            clear hi ht hB hI hb2 hB0
            cases b2 with
            | false =>
              rw [Bool.false_and] at hv
              subst hv
              go_wp2_with (go_at_call 78; refine HI.out.mono ?_; rintro e w5 ⟨rfl, hb5⟩; have HB5 := Lib.hid (HB0.out.trans (hb5.mono HB0.out.size)); clear hb5)
              go_ret
              exact ⟨rfl, HB5.out⟩
            | true =>
              rw [Bool.true_and] at hv
              have HV := Lib.hid hv
              clear hv
              go_wp2_with (go_at_call 78; refine HI.out.mono ?_; rintro e w5 ⟨rfl, hb5⟩; have HB5 := Lib.hid (HB3.out.trans (hb5.mono HB3.out.size)); clear hb5)
              go_roundw
              case rel => exact ⟨j + 1, by omega, by go_num, HV.out, HB5.out⟩
              case measure => simp [intOf]; omega
          · rw [List.drop_eq_nil_of_le (by omega), Tm.allRL] at hv
            subst hv
            have HB0 := Lib.hid (HB1.out.trans ((HB2.out.trans (hB.mono HB2.out.size)).mono HB1.out.size))
            clear hB
            go_wp2
            go_ret
            exact ⟨rfl, HB0.out⟩
    · have e2 : shpB k n s us.length = false := by
        unfold shpB
        rw [show (decide (k = 1) || decide (k = 2) || decide (k = 4)) = false by simp; omega, Bool.false_and]
      rw [e2, Bool.false_and] at hR
      subst hR
      have HBZ := Lib.hid (HB1.out.trans (HB2.out.mono HB1.out.size))
      clear e2 HIH HR hb
      cases b with
      | false =>
        clear hkk hb0
        go_wp2
        go_ret
        exact ⟨rfl, HBZ.out⟩
      | true =>
        have k0 : k ≠ 0 := fun e => by have := hb0 e; cases this
        clear hb0
        by_cases h4 : (4 : Int) < k
        · clear hkk k0 hk0
          go_wp2
          go_ret
          exact ⟨rfl, HBZ.out⟩
        · have h3 : k = 3 := by omega
          subst h3
          clear hkk k0 hk0 h4
          go_wp2
          go_ret
          exact ⟨rfl, HBZ.out⟩
theorem depthL_snocR : ∀ (ts : List Tm) (t : Tm), Tm.depthL (ts ++ [t]) = max (Tm.depthL ts) t.depth
  | [], t => by simp [Tm.depthL]
  | a :: ts, t => by simp only [List.cons_append, Tm.depthL, depthL_snocR ts t]; omega
set_option maxRecDepth 100000 in
set_option maxHeartbeats 8000000 in
theorem rdepth_any (t : Tm) : ∀ (c0 c1 c2 c3 : Value) (w : World), IsTm w.heap.size w c0 c1 c2 c3 t → t.depth ≤ 1000000 →
    Calls Tryz.prog 77 #[.agg #[c0, c1, c2, c3]] w fun e w' => e = .returned (.int .i64 t.depth) ∧ Below w.heap.size w w' := by
  induction t using Tm.ind with
  | h k n s us ih =>
    intro c0 c1 c2 c3 w h hd
    simp only [IsTm] at h
    obtain ⟨rfl, _, rfl, _, rfl, _, a, cap, rfl, hl, hr⟩ := h
    simp only [Tm.depth] at hd ⊢
    obtain ⟨W1, hW1, hq, hb1⟩ : ∃ W1, w.alloc (.cells #[.int .u8 k, .int .i64 n, .string s, .slice a us.length cap] 46) = W1 ∧ W1.heap[w.heap.size]? = some (.cells #[.int .u8 k, .int .i64 n, .string s, .slice a us.length cap] 46 (0, 0)) ∧ Below w.heap.size w W1 :=
      ⟨_, rfl, World.alloc_heap_new _ _, (Below.refl _ _).alloc (Nat.le_refl _) _⟩
    have HR := Lib.hid hr
    have HQ := Lib.hid hq
    have HB1 := Lib.hid hb1
    have HD := Lib.hid hd
    have hlen : us.length ≤ 9223372036854775807 := by unfold maxLen at hl; exact hl
    clear hr hq hb1 hd hl
    go_enter Tryz.func77, Tryz.ntmps77
    go_wp2
    go_loopw [3, 4] (fun v i wr => ∃ j : Nat, j ≤ us.length ∧ i = .int .i64 j ∧ v = .int .i64 (Tm.depthL (us.take j)) ∧ Below W1.heap.size W1 wr) (fun _ i _ => us.length - (intOf i).toNat)
    case atStart => exact ⟨0, Nat.zero_le _, rfl, rfl, Below.refl _ _⟩
    case round =>
      obtain ⟨j, hj, rfl, rfl, hB⟩ := hrel
      have hq1 := (hB.block w.heap.size (Array.getElem?_eq_some_iff.1 HQ.out).1).trans HQ.out
      have q3 := cells_at hq1 3 _ rfl
      obtain ⟨V, hV⟩ : ∃ V, Tm.depthL (us.take j) = V := ⟨_, rfl⟩
      rw [hV]
      have HV := Lib.hid hV
      have HB := Lib.hid hB
      clear hV hq1 hB
      by_cases hlt : j < us.length
      · obtain ⟨g, off, rfl, hg, hi⟩ := HR.out (by intro e; rw [e] at hlt; simp at hlt)
        have hB0 : Below w.heap.size w wr := HB1.out.trans (HB.out.mono HB1.out.size)
        obtain ⟨x0, x1, x2, x3, y0, y1, y2, y3, ht⟩ := (hi.below hB0 hg).at j hlt
        have HI := Lib.hid (ih us[j] (List.getElem_mem hlt) x0 x1 x2 x3 wr (ht.mono hB0.size) (by have := HD.out; have := Tm.depthL_mem (List.getElem_mem hlt); omega))
        obtain ⟨D, hD⟩ : ∃ D, us[j].depth = D := ⟨_, rfl⟩
        rw [hD] at HI
        have HDD := Lib.hid hD
        have i1 : (0 : Int) ≤ (j : Int) := by omega
        have i2 : (j : Int) < (us.length : Int) := by omega
        clear hi hB0 ht hD
        go_wp2_with (go_at_call 77; refine HI.out.mono ?_; rintro e w5 ⟨rfl, hb5⟩; have HB5 := Lib.hid (HB.out.trans (hb5.mono HB.out.size)); clear hb5)
        go_roundw
        case rel =>
          refine ⟨j + 1, by omega, by go_num, ?_, HB5.out⟩
          rw [List.take_succ_eq_append_getElem hlt, depthL_snocR, HV.out, HDD.out]
          congr 1
          omega
        case measure => simp [intOf]; omega
      · have i2 : ¬ (j : Int) < (us.length : Int) := by omega
        have e : us.take j = us := List.take_of_length_le (by omega)
        rw [e] at HV
        have hs1 : IntKind.i64.wrap ((V : Int) + 1) = (V : Int) + 1 := IntWalk.i64_in _ (by have := HD.out; have := HV.out; omega)
        go_wp2
        go_ret
        refine ⟨?_, HB1.out.trans (HB.out.mono HB1.out.size)⟩
        rw [HV.out]
        show Ending.returned (.int .i64 ((V : Int) + 1)) = _
        congr 2
set_option maxRecDepth 100000 in
set_option maxHeartbeats 4000000 in
theorem rvalue_any (t : Tm) (c0 c1 c2 c3 : Value) (w : World) (h : IsTm w.heap.size w c0 c1 c2 c3 t) (hd : t.depth ≤ 1000000) :
    Calls Tryz.prog 42 #[.agg #[c0, c1, c2, c3]] w fun e w' => e = .returned (.bool t.valueB) ∧ Below w.heap.size w w' := by
  obtain ⟨R, hR⟩ : ∃ R, t.valueB = R := ⟨_, rfl⟩
  rw [hR]
  rw [valueB_ref] at hR
  obtain ⟨W1, hW1, hq, hb1⟩ : ∃ W1, w.alloc (.cells #[c0, c1, c2, c3] 46) = W1 ∧ W1.heap[w.heap.size]? = some (.cells #[c0, c1, c2, c3] 46 (0, 0)) ∧ Below w.heap.size w W1 :=
    ⟨_, rfl, World.alloc_heap_new _ _, (Below.refl _ _).alloc (Nat.le_refl _) _⟩
  have hi1 := (h.below hb1).mono hb1.size
  obtain ⟨k, n, s, us⟩ := t
  have hsh := h
  simp only [IsTm] at hsh
  obtain ⟨rfl, z1, rfl, z2, rfl, z3, a, cap, rfl, z4, z5⟩ := hsh
  clear z1 z2 z3 z4 z5
  have q0 := cells_at hq 0 _ rfl
  have q1 := cells_at hq 1 _ rfl
  have q2 := cells_at hq 2 _ rfl
  have q3 := cells_at hq 3 _ rfl
  have HD := Lib.hid (rdepth_any _ _ _ _ _ W1 hi1 hd)
  obtain ⟨D, hD⟩ : ∃ D, Tm.depth (.mk k n s us) = D := ⟨_, rfl⟩
  rw [hD] at HD hR
  have HRE := Lib.hid hR
  clear hR
  have HB1 := Lib.hid hb1
  have HQ := Lib.hid hq
  have HI := Lib.hid hi1
  clear h hq hb1 hi1 hd hD
  go_enter Tryz.func42, Tryz.ntmps42
  go_wp2_with (go_at_call 77; refine HD.out.mono ?_)
  clear HD hW1 q0 q1 q2 q3
  rintro e w2 ⟨rfl, hb2⟩
  have hq2 := (hb2.block w.heap.size (Array.getElem?_eq_some_iff.1 HQ.out).1).trans HQ.out
  have q0 := cells_at hq2 0 _ rfl
  have q1 := cells_at hq2 1 _ rfl
  have q2 := cells_at hq2 2 _ rfl
  have q3 := cells_at hq2 3 _ rfl
  have HA := Lib.hid (rall_any _ _ _ _ _ w2 ((HI.out.below hb2).mono hb2.size))
  have HB2 := Lib.hid (HB1.out.trans (hb2.mono HB1.out.size))
  have hR := HRE.out
  clear hq2 hb2 HRE
  by_cases hd : D ≤ 12
  · rw [decide_eq_true hd, Bool.true_and] at hR
    rw [hR] at HA
    have i1 : (D : Int) ≤ 12 := by omega
    clear hR hd
    go_wp2_with (go_at_call 78; refine HA.out.mono ?_; rintro e w5 ⟨rfl, hb5⟩; have HB5 := Lib.hid (HB2.out.trans (hb5.mono HB2.out.size)); clear hb5)
    go_ret
    exact ⟨rfl, HB5.out⟩
  · rw [decide_eq_false hd, Bool.false_and] at hR
    subst hR
    have i1 : ¬ (D : Int) ≤ 12 := by omega
    clear hd HA
    go_wp2
    go_ret
    exact ⟨rfl, HB2.out⟩
set_option maxRecDepth 100000 in
set_option maxHeartbeats 4000000 in
theorem rvalidA_any (x : Ato) (v0 v1 : Value) (w : World) (h : AtS (fun b => b < w.heap.size) w v0 v1 x) (hc : cntA x ≤ 1000000) :
    Calls Tryz.prog 11 #[.agg #[v0, v1]] w fun e w' => e = .returned (.bool (validA x)) ∧ Below w.heap.size w w' := by
  obtain ⟨p, us⟩ := x
  obtain ⟨a, cap, rfl, rfl⟩ := h.shape
  change Calls Tryz.prog 11 #[.agg #[.string p, .slice a us.length cap]] w _
  have hargs := h.args (fun _ h => h)
  have hp : p.size ≤ maxLen := h.2.1
  have hl : us.length ≤ maxLen := by obtain ⟨_, _, _, _, _, q, _⟩ := h; exact q
  have hdep : ∀ t ∈ us, t.depth ≤ 1000000 := fun t ht => by
    have h1 := Tm.depthL_mem ht
    have h2 := Tm.depthL_le_countL us
    unfold cntA at hc
    have hc' : 1 + Tm.countL us ≤ 1000000 := hc
    omega
  obtain ⟨R, hR⟩ : ∃ R, validA (p, us) = R := ⟨_, rfl⟩
  rw [hR]
  unfold validA at hR
  simp only at hR hargs
  obtain ⟨W1, hW1, hq, hb1⟩ : ∃ W1, w.alloc (.cells #[.string p, .slice a us.length cap] 24) = W1 ∧ W1.heap[w.heap.size]? = some (.cells #[.string p, .slice a us.length cap] 24 (0, 0)) ∧ Below w.heap.size w W1 :=
    ⟨_, rfl, World.alloc_heap_new _ _, (Below.refl _ _).alloc (Nat.le_refl _) _⟩
  have HSY := Lib.hid (rsymbol_any p W1 hp)
  have HR := Lib.hid hargs
  have HQ := Lib.hid hq
  have HB1 := Lib.hid hb1
  have HD := Lib.hid hdep
  have q0 := cells_at hq 0 _ rfl
  have q1 := cells_at hq 1 _ rfl
  have hlen : us.length ≤ 9223372036854775807 := by unfold maxLen at hl; exact hl
  clear h hargs hp hl hc hdep hq hb1
  cases hs : symbolB p with
  | false =>
    rw [hs] at hR HSY
    clear hs
    simp only [Bool.false_and] at hR
    subst hR
    go_enter Tryz.func11, Tryz.ntmps11
    go_wp2_with (go_at_call 41; refine HSY.out.mono ?_; rintro e w2 ⟨rfl, rfl⟩)
    go_ret
    exact ⟨rfl, HB1.out⟩
  | true =>
    rw [hs] at hR HSY
    by_cases h8 : us.length ≤ 8
    · rw [decide_eq_true h8, Bool.true_and, Bool.true_and] at hR
      have HRR := Lib.hid hR
      have i8 : ¬ (8 : Int) < (us.length : Int) := by omega
      clear hR hs
      go_enter Tryz.func11, Tryz.ntmps11
      go_wp2_with (go_at_call 41; refine HSY.out.mono ?_; rintro e w2 ⟨rfl, rfl⟩; clear HSY)
      try rw [hW1]
      clear q0 q1 hW1
      go_loopw [3] (fun i wr => ∃ j : Nat, j ≤ us.length ∧ i = .int .i64 j ∧ (us.drop j).all Tm.valueB = R ∧ Below W1.heap.size W1 wr) (fun i _ => us.length - (intOf i).toNat)
      case atStart => exact ⟨0, Nat.zero_le _, by go_num, by simpa using HRR.out, Below.refl _ _⟩
      case round =>
        obtain ⟨j, hj, rfl, hv, hB⟩ := hrel
        have hq3 := (hB.block w.heap.size (Array.getElem?_eq_some_iff.1 HQ.out).1).trans HQ.out
        have q1 := cells_at hq3 1 _ rfl
        have HB3 := Lib.hid hB
        clear hq3
        by_cases hlt : j < us.length
        · rw [List.drop_eq_getElem_cons hlt, List.all_cons] at hv
          obtain ⟨g, off, rfl, hg, hi⟩ := HR.out (by intro e; rw [e] at hlt; simp at hlt)
          have hB0 : Below w.heap.size w wr := HB1.out.trans (hB.mono HB1.out.size)
          obtain ⟨x0, x1, x2, x3, y0, y1, y2, y3, ht⟩ := (hi.below hB0 hg).at j hlt
          have hI := rvalue_any us[j] x0 x1 x2 x3 wr (ht.mono hB0.size) (HD.out _ (List.getElem_mem hlt))
          obtain ⟨b2, hb2⟩ : ∃ b, us[j].valueB = b := ⟨_, rfl⟩
          rw [hb2] at hv hI
          have HI := Lib.hid hI
          have i1 : (0 : Int) ≤ (j : Int) := by omega
          have i2 : (j : Int) < (us.length : Int) := by omega
          have HB0 := Lib.hid hB0
          clear hi ht hB hI hb2 hB0
          cases b2 with
          | false =>
            rw [Bool.false_and] at hv
            subst hv
            go_wp2_with (go_at_call 42; refine HI.out.mono ?_; rintro e w5 ⟨rfl, hb5⟩; have HB5 := Lib.hid (HB0.out.trans (hb5.mono HB0.out.size)); clear hb5)
            go_ret
            exact ⟨rfl, HB5.out⟩
          | true =>
            rw [Bool.true_and] at hv
            have HV := Lib.hid hv
            clear hv
            go_wp2_with (go_at_call 42; refine HI.out.mono ?_; rintro e w5 ⟨rfl, hb5⟩; have HB5 := Lib.hid (HB3.out.trans (hb5.mono HB3.out.size)); clear hb5)
            go_roundw
            case rel => exact ⟨j + 1, by omega, by go_num, HV.out, HB5.out⟩
            case measure => simp [intOf]; omega
        · rw [List.drop_eq_nil_of_le (by omega), List.all_nil] at hv
          subst hv
          have HB0 := Lib.hid (HB1.out.trans (hB.mono HB1.out.size))
          clear hB
          go_wp2
          go_ret
          exact ⟨rfl, HB0.out⟩
    · rw [decide_eq_false h8] at hR
      simp only [Bool.true_and, Bool.false_and] at hR
      subst hR
      have i8 : (8 : Int) < (us.length : Int) := by omega
      clear hs h8
      go_enter Tryz.func11, Tryz.ntmps11
      go_wp2_with (go_at_call 41; refine HSY.out.mono ?_; rintro e w2 ⟨rfl, rfl⟩)
      go_ret
      exact ⟨rfl, HB1.out⟩
end Go.Proofs.YtcoieohbmkjpoaaGreatDoor
