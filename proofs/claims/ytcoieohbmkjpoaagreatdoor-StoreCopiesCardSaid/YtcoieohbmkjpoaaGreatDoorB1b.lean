/- Texts that belong together: Package term: Depth. Package term: Ground. Package term: Valid. Package term: the requirements of each kind. Package term: Valid. Package term, texts: write and String. Names and numerals as lists of bytes: plain mathematics for the texts of terms. The slots behind a region that draws its order: what was written told by the region's slots, the rest as it was. A region that draws its order, in which some operations, one behind the other, write old memory: told by phases of the world. Terms in a set of blocks; copies of terms. slices.Grow of nil: room for n elements. Package store: copies of ter -/
import Derived.Test.YtcoieohbmkjpoaaGreatDoorB1a
import Derived.Test.YtcoieohbmkjpoaaGreatDoorProg
import Derived.Maps.OwnIn
import Derived.Maps.OwnOps
import Derived.Maps.OwnSet
import Derived.Lib.ItoaLen
import Derived.WalkKit
import Derived.WalkSpells
import Derived.WalkLawsBesides
import Derived.Maps.AppendAt
import Derived.Laws.Append
import Derived.IntWalk
import Derived.RangeFuncBox
import Derived.Handy
import Derived.OwnWalk
namespace Go.Proofs.YtcoieohbmkjpoaaGreatDoor
open Go.RowKit Go.Shelf
attribute [local go_sem] Oper.semAt_some

/-- A block of cells stays what it is under the loop's book-keeping. -/
theorem cells_own {β : Type} (B : Nat) (t : TypeId) (f : β → Array Value) : Own (fun s W => W.heap[B]? = some (.cells (f s) t (0, 0))) := fun s X Y row hs hg hrow =>
  (hg.block B (Array.getElem?_eq_some_iff.1 hs).1 (fun e' => by obtain ⟨o, ho, hc⟩ := hrow B e'.symm; rw [show X.heap[B]? = _ from hs] at ho; cases ho; cases hc)).trans hs

def maxLv {n₀ : Nat} {wt : World} (pre : List (NdIn n₀ wt)) : Nat := (pre.map fun x => x.1.l).foldl max 0

mutual
theorem Tm.levels (l : Nat) (hl : 1 ≤ l) : ∀ (t : Tm) (m : Nat), ((t.nodes l).map (·.2)).foldl max m = max m (l - 1 + t.depth)
  | .mk k n s args, m => by
    simp only [Tm.nodes, List.map_cons, List.foldl_cons, Tm.depth]
    rw [Tm.levelsL (l + 1) (by omega) args (max m l) (by omega)]
    omega
theorem Tm.levelsL (l : Nat) (hl : 1 ≤ l) : ∀ (ts : List Tm) (m : Nat), l - 1 ≤ m → ((Tm.nodesL l ts).map (·.2)).foldl max m = max m (l - 1 + Tm.depthL ts)
  | [], m, h => by simp only [Tm.nodesL, List.map_nil, List.foldl_nil, Tm.depthL]; omega
  | t :: ts, m, h => by
    simp only [Tm.nodesL, List.map_append, List.foldl_append, Tm.depthL]
    rw [Tm.levels l hl t m, Tm.levelsL l hl ts _ (by omega)]
    omega
end
theorem maxLv_all {n₀ : Nat} {wt : World} {ys : List (NdIn n₀ wt)} {t : Tm} (h : ys.map NdIn.key = t.nodes 1) : maxLv ys = t.depth := by
  have e : (ys.map fun x => x.1.l) = (t.nodes 1).map (·.2) := by rw [← h, List.map_map]; rfl
  unfold maxLv
  rw [e, Tm.levels 1 (by omega)]
  have : 1 ≤ t.depth := by cases t; simp only [Tm.depth]; omega
  omega


end Go.Proofs.YtcoieohbmkjpoaaGreatDoor
namespace Go.Proofs.YtcoieohbmkjpoaaGreatDoor
open Go.RowKit Go.Shelf
attribute [local go_sem] Oper.semAt_some

def Tm.isVar (t : Tm) : Bool := decide (t.kind = 3)
def Tm.groundB (t : Tm) : Bool := (t.nodes 1).all fun x => !x.1.isVar

theorem all_of_pre {n₀ : Nat} {wt : World} {ys : List (NdIn n₀ wt)} {l : List (Tm × Nat)} {p : Tm × Nat → Bool} (h : ys.map NdIn.key = l) (hp : ys.all (fun x => p x.key) = true) : l.all p = true := by
  rw [← h, List.all_map]; exact hp
theorem not_all_of_pre {n₀ : Nat} {wt : World} {ys : List (NdIn n₀ wt)} {l : List (Tm × Nat)} {p : Tm × Nat → Bool} (h : ys.map NdIn.key <+: l) (hp : ys.all (fun x => p x.key) = false) : l.all p = false := by
  obtain ⟨r, rfl⟩ := h
  rw [List.all_append, List.all_map]
  rw [show (p ∘ NdIn.key : NdIn n₀ wt → Bool) = fun x => p x.key from rfl, hp]; rfl


end Go.Proofs.YtcoieohbmkjpoaaGreatDoor
namespace Go.Proofs.YtcoieohbmkjpoaaGreatDoor
open Go.RowKit Go.Shelf Go.Maps

/-- A function of the program as a number. -/
def fnElem {H : Type} : Value → Option (DataW H × List MemPlace)
  | .func (.func f) a b => if a = #[] ∧ b = #[] then some (.lit (.int .i64 f), []) else none
  | .nilFunc => some (.nil, [])
  | _ => none

theorem wpList_insert_own {H : Type} {P : Program} (w : World) {ops : Array Oper} {rest : List Oper} {o : Oper} {a : Act} {Q : Exit → Act → World → Prop}
    (hg : o.guard = none) (m x v : Operand) (t : TypeId) (hop : o.op = Op.insert t m x v)
    (k e : TypeId) (K : Keyed P k) (ht : P.underlying t = some (.map k e)) (R : Value → Option (DataW H × List MemPlace)) (b n : Nat) (D : DataW H)
    (hm : a.eval m = .map (some b)) (hown : w.ownsMap P k R b n D) (hn : n < maxLen) (key val : Value) (kl : Lit) (hx : a.eval x = key) (hv : a.eval v = val) (hkey : keyOf P k key = some kl)
    (d : DataW H) (ps : List MemPlace) (hval : R val = some (d, ps))
    (hK : ∀ w', w'.ownsMap P k R b (n + 1) (D.put kl d) → w.grownBy w' (some b) → wpList P ops Q rest (a.put o.dst undef) w') :
    wpList P ops Q (o :: rest) a w := by
  refine wpList_plain hg fun K' hK' => ?_
  obtain ⟨w', hrun, r1, r2⟩ := hown.update K ht hn hkey hval
  unfold Oper.wp
  simp [execOp, hop, hm, hx, hv, hrun, Result.andThen]
  exact hK' _ _ (hK w' r1 r2)

/-- The map of requirements: a function for each kind. -/
def reqD : DataW Unit := .map [(.int .u8 1, .lit (.int .i64 140)), (.int .u8 2, .lit (.int .i64 141)), (.int .u8 3, .lit (.int .i64 142)), (.int .u8 4, .lit (.int .i64 144)), (.int .u8 5, .lit (.int .i64 145)), (.int .u8 6, .lit (.int .i64 147))]

set_option maxRecDepth 100000 in
set_option maxHeartbeats 1000000 in
theorem req_any (w : World) :
    Calls Tryz.prog 103 #[] w fun e w' => e = .returned (.map (some w.heap.size)) ∧ w'.ownsMap Tryz.prog 5 fnElem w.heap.size 6 reqD ∧ Below w.heap.size w w' ∧ w.heap.size < w'.heap.size := by
  have hmm := @run_makeMap Tryz.prog
  have hown := World.ownsMap_made (H := Unit) w Tryz.prog 5 fnElem
  have hB : Below w.heap.size w (w.alloc (.map #[] 0)) := (Below.refl _ w).alloc (Nat.le_refl _) _
  have hz : w.heap.size < (w.alloc (.map #[] 0)).heap.size := by simp
  go_enter Tryz.func103, Tryz.ntmps103
  go_wp2_with (refine wpList_insert_own _ rfl _ _ _ _ rfl _ _ (Maps.int_keyed Tryz.underlying5) Tryz.underlying146 fnElem _ _ _ rfl hown (by unfold maxLen; omega) _ _ _ rfl rfl (Maps.keyOf_int_mk Tryz.underlying5 (by decide)) _ [] rfl ?_; clear hown; intro w1 hown hg1; replace hz := Nat.lt_of_lt_of_le hz hg1.size; replace hB := hB.grown hg1 (by have := hB.size; omega) (fun k e => by cases e; exact Nat.le_refl _); clear hg1)
  go_ret
  exact ⟨rfl, hown, hB, hz⟩
end Go.Proofs.YtcoieohbmkjpoaaGreatDoor
namespace Go.Proofs.YtcoieohbmkjpoaaGreatDoor
open Go.RowKit

def operB (s : ByteArray) (m : Nat) : Bool :=
  if s.toList == [45] then decide (m = 1) || decide (m = 2) else (s.toList == [43] || s.toList == [42] || s.toList == [47] || s.toList == [92]) && decide (m = 2)

def reqB (k : Int) (n : Int) (s : ByteArray) (m : Nat) : Bool :=
  if k = 1 then decide (-2147483647 ≤ n) && decide (n ≤ 2147483647) && s.toList.isEmpty && decide (m = 0)
  else if k = 2 then decide (n = 0) && decide (m = 0) && symbolB s
  else if k = 3 then decide (n = 0) && decide (m = 0) && variableB s
  else if k = 4 then decide (n = 0) && decide (1 ≤ m) && decide (m ≤ 8) && symbolB s
  else if k = 5 then decide (n = 0) && operB s m
  else if k = 6 then decide (n = 0) && s.toList.isEmpty && decide (m = 2)
  else false

set_option maxHeartbeats 2000000 in
theorem req1 (k n lv : Int) (s : ByteArray) (a : Option Addr) (m cap : Nat) (w : World) (hm : m ≤ maxLen) :
    Calls Tryz.prog 140 #[.agg #[.int .u8 k, .int .i64 n, .string s, .slice a m cap, .int .i64 lv]] w fun e w' => e = .returned (.bool (reqB 1 n s m)) ∧ w' = w.alloc (.cells #[.int .u8 k, .int .i64 n, .string s, .slice a m cap, .int .i64 lv] 106) := by
  unfold maxLen at hm
  have hr : reqB 1 n s m = (decide (-2147483647 ≤ n) && decide (n ≤ 2147483647) && s.toList.isEmpty && decide (m = 0)) := rfl
  have HR := Lib.hid hr; clear hr
  by_cases h1 : -2147483647 ≤ n <;> by_cases h2 : n ≤ 2147483647 <;> cases h3 : s.toList.isEmpty <;> by_cases h4 : m = 0
  all_goals try (exfalso; omega)
  all_goals
    have H1 := Lib.hid h1
    have H2 := Lib.hid h2
    have H3 := Lib.hid h3
    have H4 := Lib.hid h4
    first | subst h4 | (have h5 : ((m : Int) == 0) = false := by simpa using h4)
    go_enter Tryz.func140, Tryz.ntmps140
    go_wp2
    go_ret
    exact ⟨by rw [HR.out]; simp [H1.out, H2.out, H3.out, H4.out], rfl⟩
set_option maxHeartbeats 2000000 in
theorem req2 (k n lv : Int) (s : ByteArray) (a : Option Addr) (m cap : Nat) (w : World) (hm : m ≤ maxLen) (hs : s.size ≤ maxLen) :
    Calls Tryz.prog 141 #[.agg #[.int .u8 k, .int .i64 n, .string s, .slice a m cap, .int .i64 lv]] w fun e w' => e = .returned (.bool (reqB 2 n s m)) ∧ w' = w.alloc (.cells #[.int .u8 k, .int .i64 n, .string s, .slice a m cap, .int .i64 lv] 106) := by
  unfold maxLen at hm
  have hr : reqB 2 n s m = (decide (n = 0) && decide (m = 0) && symbolB s) := rfl
  have HR := Lib.hid hr; clear hr
  by_cases h1 : n = 0 <;> by_cases h4 : m = 0
  all_goals
    have H1 := Lib.hid h1
    have H4 := Lib.hid h4
    first | subst h1 | (have h6 : (n == 0) = false := by simpa using h1)
    first | subst h4 | (have h5 : ((m : Int) == 0) = false := by simpa using h4)
    go_enter Tryz.func141, Tryz.ntmps141
    go_wp2_with (go_at_call 38; refine (symbol_any _ _ hs).mono ?_; rintro e w' ⟨rfl, rfl⟩)
    go_ret
    exact ⟨by rw [HR.out]; simp [H1.out, H4.out], rfl⟩
set_option maxHeartbeats 2000000 in
theorem req3 (k n lv : Int) (s : ByteArray) (a : Option Addr) (m cap : Nat) (w : World) (hm : m ≤ maxLen) (hs : s.size ≤ maxLen) :
    Calls Tryz.prog 142 #[.agg #[.int .u8 k, .int .i64 n, .string s, .slice a m cap, .int .i64 lv]] w fun e w' => e = .returned (.bool (reqB 3 n s m)) ∧ w' = w.alloc (.cells #[.int .u8 k, .int .i64 n, .string s, .slice a m cap, .int .i64 lv] 106) := by
  unfold maxLen at hm
  have hr : reqB 3 n s m = (decide (n = 0) && decide (m = 0) && variableB s) := rfl
  have HR := Lib.hid hr; clear hr
  by_cases h1 : n = 0 <;> by_cases h4 : m = 0
  all_goals
    have H1 := Lib.hid h1
    have H4 := Lib.hid h4
    first | subst h1 | (have h6 : (n == 0) = false := by simpa using h1)
    first | subst h4 | (have h5 : ((m : Int) == 0) = false := by simpa using h4)
    go_enter Tryz.func142, Tryz.ntmps142
    go_wp2_with (go_at_call 143; refine (variable_any _ _ hs).mono ?_; rintro e w' ⟨rfl, rfl⟩)
    go_ret
    exact ⟨by rw [HR.out]; simp [H1.out, H4.out], rfl⟩
set_option maxHeartbeats 2000000 in
theorem req4 (k n lv : Int) (s : ByteArray) (a : Option Addr) (m cap : Nat) (w : World) (hm : m ≤ maxLen) (hs : s.size ≤ maxLen) :
    Calls Tryz.prog 144 #[.agg #[.int .u8 k, .int .i64 n, .string s, .slice a m cap, .int .i64 lv]] w fun e w' => e = .returned (.bool (reqB 4 n s m)) ∧ w' = w.alloc (.cells #[.int .u8 k, .int .i64 n, .string s, .slice a m cap, .int .i64 lv] 106) := by
  unfold maxLen at hm
  have hr : reqB 4 n s m = (decide (n = 0) && decide (1 ≤ m) && decide (m ≤ 8) && symbolB s) := rfl
  have HR := Lib.hid hr; clear hr
  by_cases h1 : n = 0 <;> by_cases h2 : 1 ≤ m <;> by_cases h4 : m ≤ 8
  all_goals try (exfalso; omega)
  all_goals
    have H1 := Lib.hid h1
    have H2 := Lib.hid h2
    have H4 := Lib.hid h4
    first | subst h1 | (have h6 : (n == 0) = false := by simpa using h1)
    go_enter Tryz.func144, Tryz.ntmps144
    go_wp2_with (go_at_call 38; refine (symbol_any _ _ hs).mono ?_; rintro e w' ⟨rfl, rfl⟩)
    go_ret
    exact ⟨by rw [HR.out]; simp [H1.out, H2.out, H4.out], rfl⟩
set_option maxHeartbeats 2000000 in
theorem req6 (k n lv : Int) (s : ByteArray) (a : Option Addr) (m cap : Nat) (w : World) (hm : m ≤ maxLen) :
    Calls Tryz.prog 147 #[.agg #[.int .u8 k, .int .i64 n, .string s, .slice a m cap, .int .i64 lv]] w fun e w' => e = .returned (.bool (reqB 6 n s m)) ∧ w' = w.alloc (.cells #[.int .u8 k, .int .i64 n, .string s, .slice a m cap, .int .i64 lv] 106) := by
  unfold maxLen at hm
  have hr : reqB 6 n s m = (decide (n = 0) && s.toList.isEmpty && decide (m = 2)) := rfl
  have HR := Lib.hid hr; clear hr
  by_cases h1 : n = 0 <;> cases h3 : s.toList.isEmpty <;> by_cases h4 : m = 2
  all_goals
    have H1 := Lib.hid h1
    have H3 := Lib.hid h3
    have H4 := Lib.hid h4
    first | subst h1 | (have h6 : (n == 0) = false := by simpa using h1)
    first | subst h4 | (have h5 : ((m : Int) == 2) = false := by rw [beq_eq_false_iff_ne]; omega)
    go_enter Tryz.func147, Tryz.ntmps147
    go_wp2
    go_ret
    exact ⟨by rw [HR.out]; simp [H1.out, H3.out, H4.out], rfl⟩

set_option maxHeartbeats 2000000 in
theorem operator_any (s : ByteArray) (m : Nat) (w : World) (hm : m ≤ maxLen) :
    Calls Tryz.prog 146 #[.string s, .int .i64 m] w fun e w' => e = .returned (.bool (operB s m)) ∧ w = w' := by
  unfold maxLen at hm
  have hr : operB s m = (if s.toList == [45] then decide (m = 1) || decide (m = 2) else (s.toList == [43] || s.toList == [42] || s.toList == [47] || s.toList == [92]) && decide (m = 2)) := rfl
  have HR := Lib.hid hr; clear hr
  have hc : m = 1 ∨ m = 2 ∨ (m ≠ 1 ∧ m ≠ 2) := by omega
  cases e1 : s.toList == [45] <;> cases e2 : s.toList == [43] <;> cases e3 : s.toList == [42] <;> cases e4 : s.toList == [47] <;> cases e5 : s.toList == [92]
  all_goals try (exfalso; simp only [beq_iff_eq] at e1 e2 e3 e4 e5; simp_all; done)
  all_goals
    have E1 := Lib.hid e1
    have E2 := Lib.hid e2
    have E3 := Lib.hid e3
    have E4 := Lib.hid e4
    have E5 := Lib.hid e5
    rcases hc with rfl | rfl | ⟨h1, h2⟩
    · go_enter Tryz.func146, Tryz.ntmps146
      go_wp2
      go_ret
      exact ⟨by rw [HR.out, E1.out, E2.out, E3.out, E4.out, E5.out]; rfl, rfl⟩
    · go_enter Tryz.func146, Tryz.ntmps146
      go_wp2
      go_ret
      exact ⟨by rw [HR.out, E1.out, E2.out, E3.out, E4.out, E5.out]; rfl, rfl⟩
    · have g1 : ((m : Int) == 1) = false := by rw [beq_eq_false_iff_ne]; omega
      have g2 : ((m : Int) == 2) = false := by rw [beq_eq_false_iff_ne]; omega
      have H1 := Lib.hid h1
      have H2 := Lib.hid h2
      clear h1 h2
      go_enter Tryz.func146, Tryz.ntmps146
      go_wp2
      go_ret
      exact ⟨by rw [HR.out, E1.out, E2.out, E3.out, E4.out, E5.out]; simp [H1.out, H2.out], rfl⟩

theorem req5B (n : Int) (s : ByteArray) (m : Nat) : reqB 5 n s m = (decide (n = 0) && operB s m) := rfl

set_option maxHeartbeats 2000000 in
theorem req5 (k n lv : Int) (s : ByteArray) (a : Option Addr) (m cap : Nat) (w : World) (hm : m ≤ maxLen) :
    Calls Tryz.prog 145 #[.agg #[.int .u8 k, .int .i64 n, .string s, .slice a m cap, .int .i64 lv]] w fun e w' => e = .returned (.bool (reqB 5 n s m)) ∧ w' = w.alloc (.cells #[.int .u8 k, .int .i64 n, .string s, .slice a m cap, .int .i64 lv] 106) := by
  have HM := Lib.hid hm
  have HR := Lib.hid (req5B n s m)
  by_cases h1 : n = 0
  all_goals
    have H1 := Lib.hid h1
    first | subst h1 | (have h6 : (n == 0) = false := by simpa using h1)
    go_enter Tryz.func145, Tryz.ntmps145
    go_wp2_with (go_at_call 146; refine (operator_any _ _ _ HM.out).mono ?_; rintro e w' ⟨rfl, rfl⟩)
    go_ret
    exact ⟨by rw [HR.out]; simp [H1.out], rfl⟩
end Go.Proofs.YtcoieohbmkjpoaaGreatDoor
namespace Go.Proofs.YtcoieohbmkjpoaaGreatDoor
open Go.RowKit Go.Shelf Go.Maps
attribute [local go_sem] Oper.semAt_some

def nodeOkB (x : Tm × Nat) : Bool := decide (x.2 ≤ 12) && reqB x.1.kind x.1.num x.1.name x.1.args.length
def Tm.validB (t : Tm) : Bool := (t.nodes 1).all nodeOkB

theorem fnElem_inv {v : Value} {f : Nat} {ps : List MemPlace} (h : fnElem (H := Unit) v = some (.lit (.int .i64 f), ps)) : v = .func (.func f) #[] #[] := by
  unfold fnElem at h
  split at h
  · split at h
    · rename_i f' a b hab
      obtain ⟨rfl, rfl⟩ := hab
      simp only [Option.some.injEq, Prod.mk.injEq, DataW.lit.injEq, Lit.int.injEq, true_and] at h
      have e := h.1
      simp only [Int.natCast_inj] at e
      rw [e]
    · cases h
  · simp at h
  · cases h
theorem req_none {k : Int} (h : ¬ (1 ≤ k ∧ k ≤ 6)) : Maps.has reqD (.int .u8 k) = false := by
  simp only [reqD, Maps.has, List.any_cons, List.any_nil, Lit.sameKey, Bool.or_false]
  simp; omega
theorem reqB_none {k n : Int} {s : ByteArray} {m : Nat} (h : ¬ (1 ≤ k ∧ k ≤ 6)) : reqB k n s m = false := by
  unfold reqB
  rw [if_neg (by omega), if_neg (by omega), if_neg (by omega), if_neg (by omega), if_neg (by omega), if_neg (by omega)]

set_option maxRecDepth 100000 in
set_option maxHeartbeats 2000000 in
theorem valid_in (t : Tm) (c0 c1 c2 c3 : Value) (w : World) (ht : IsTm w.heap.size w c0 c1 c2 c3 t) (hdep : t.depth < 4611686018427387900) :
    CallsIn Fence.wide 8 Tryz.prog 69 #[.agg #[c0, c1, c2, c3]] w fun e w' => e = .returned (.bool t.validB) ∧ Below w.heap.size w w' := by
  have hd : Fence.wide.depth = none := rfl
  have hro : Fence.wide.round = none := rfl
  have hdd : ∀ k : Nat, (Fence.wide.depth.isSome = true → 1 ≤ k) := fun k h => by rw [hd] at h; cases h
  have hg : t.validB = (t.nodes 1).all nodeOkB := rfl
  have HG := Lib.hid hg; clear hg
  refine callsIn_of_wp_marks Tryz.func69 rfl trivial ?_ hro
  simp only [Tryz.ntmps69, List.size_toArray, List.length_cons, List.length_nil, Nat.reduceAdd, Nat.reduceSub, Array.replicate_succ, Array.replicate_zero, List.push_toArray, List.append_toArray, List.nil_append, List.cons_append]
  gi_wp2_with (refine ⟨trivial, ?_⟩; gi_at_call 103; refine (callsIn_wide.2 (req_any _)).mono ?_)
  rintro e w1 ⟨rfl, hown, hB1, hz1⟩
  simp only [World.size_alloc] at hown hB1 hz1 ⊢
  have hBw : Below w.heap.size w w1 := (((Below.refl _ w).alloc (Nat.le_refl _) _).alloc (by simp) _).trans (hB1.mono (by omega))
  have hb1 : w1.heap[w.heap.size]? = some (.cells #[c0, c1, c2, c3] 46 (0, 0)) :=
    (hB1.block _ (by omega)).trans ((Below.heap_alloc _ _ _ (by simp)).trans (World.alloc_heap_new w _))
  have hbr : Boxed w1 (w.heap.size + 1) 4 (.bool false) := by
    refine (hB1.block _ (by omega)).trans ?_
    have := Boxed.new (w.alloc (.cells #[c0, c1, c2, c3] 46)) 4 (.bool false)
    rw [World.size_alloc] at this; exact this
  have g0 := cells_at hb1 0 c0 rfl
  have g1 := cells_at hb1 1 c1 rfl
  have g2 := cells_at hb1 2 c2 rfl
  have g3 := cells_at hb1 3 c3 rfl
  have hlt0 : w.heap.size < w1.heap.size := by omega
  have hne0 : ¬ w.heap.size = w1.heap.size := by omega
  gi_wp2_with (refine ⟨trivial, ?_⟩; gi_at_call 70; refine (subterms_in Fence.wide 7 trivial hro _ _ _ _ _).mono ?_; rintro e w' ⟨rfl, rfl⟩)
  obtain ⟨es, clock, hmb, hFt, hes, hD⟩ := hown
  have HFt := Lib.hid hFt; clear hFt
  have HD := Lib.hid hD; clear hD
  obtain ⟨W0, hW0⟩ : ∃ W0, (w1.alloc (.cells #[.map (some (w.heap.size + 1 + 1))] 146)).alloc (.cells #[c0, c1, c2, c3] 46) = W0 := ⟨_, rfl⟩
  have hsz : W0.heap.size = w1.heap.size + 2 := by rw [← hW0]; simp
  have hb0 : Below w.heap.size w W0 := by rw [← hW0]; exact (hBw.alloc (by omega) _).alloc (by simp; omega) _
  have hbd : Boxed W0 (w.heap.size + 1) 4 (.bool false) := by rw [← hW0]; exact (hbr.alloc _).alloc _
  have hbn : Boxed W0 w1.heap.size 146 (.map (some (w.heap.size + 1 + 1))) := by rw [← hW0]; exact (Boxed.new w1 _ _).alloc _
  have hm0 : W0.heap[w.heap.size + 1 + 1]? = some (.map es clock) := by
    rw [← hW0]; exact (Below.heap_alloc _ _ _ (by simp; omega)).trans ((Below.heap_alloc _ _ _ (by omega)).trans hmb)
  have hbt : W0.heap[w1.heap.size + 1]? = some (.cells #[c0, c1, c2, c3] 46 (0, 0)) := by
    rw [← hW0]; have := World.alloc_heap_new (w1.alloc (.cells #[.map (some (w.heap.size + 1 + 1))] 146)) (.cells #[c0, c1, c2, c3] 46)
    rw [World.size_alloc] at this; exact this
  rw [hW0]
  clear hW0 hb1 hbr g0 g1 g2 g3 hmb
  refine wpIn_rangeFunc_ownH hro (by omega) (gf := 104) (lb := #[.pointer (some ⟨w1.heap.size + 1, 0, none⟩)]) rfl trivial (enters_of Tryz.func104 (by kernel_rfl) rfl)
    (subterms_stops Fence.wide hd 7 trivial trivial hro (w1.heap.size + 1) w.heap.size w W0 t c0 c1 c2 c3 (by omega) hb0 ht hdep hbt) Kept.trans
    (fun W l o o' hl h hc _ => Kept.putObj o' (by omega) (by have := (Array.getElem?_eq_some_iff.1 h).1; omega) h hc) (Below.refl _ _) (fun _ => rfl)
    (fun pre W => (Boxed W (w.heap.size + 1) 4 (.bool false) ∧ Boxed W w1.heap.size 146 (.map (some (w.heap.size + 1 + 1)))) ∧ (W.heap[w.heap.size + 1 + 1]? = some (.map es clock) ∧ Below w.heap.size w W ∧ W0.heap.size ≤ W.heap.size) ∧ pre.all (fun x => nodeOkB x.key) = true)
    (fun c pre W => (Boxed W (w.heap.size + 1) 4 (.bool false) ∧ Boxed W w1.heap.size 146 (.map (some (w.heap.size + 1 + 1)))) ∧ (W.heap[w.heap.size + 1 + 1]? = some (.map es clock) ∧ Below w.heap.size w W ∧ W0.heap.size ≤ W.heap.size) ∧ (c = .ret ∧ pre.all (fun x => nodeOkB x.key) = false))
    (OwnFrom.and (OwnFrom.and (Own.from (boxed_own _ _ fun _ => .bool false) _) (Own.from (boxed_own _ _ fun _ => .map (some (w.heap.size + 1 + 1))) _)) (OwnFrom.and (OwnFrom.and (fun _ X Y row hs hg hr => (hg.block _ (Array.getElem?_eq_some_iff.1 hs).1 (fun e => by have := (hr _ e.symm).1; omega)).trans hs) (OwnFrom.and (ownFrom_below (Nat.le_refl _) (by omega)) (fun _ _ _ _ hs hg _ => Nat.le_trans hs hg.size))) (ownFrom_pure _ _)))
    (fun c => OwnFrom.and (OwnFrom.and (Own.from (boxed_own _ _ fun _ => .bool false) _) (Own.from (boxed_own _ _ fun _ => .map (some (w.heap.size + 1 + 1))) _)) (OwnFrom.and (OwnFrom.and (fun _ X Y row hs hg hr => (hg.block _ (Array.getElem?_eq_some_iff.1 hs).1 (fun e => by have := (hr _ e.symm).1; omega)).trans hs) (OwnFrom.and (ownFrom_below (Nat.le_refl _) (by omega)) (fun _ _ _ _ hs hg _ => Nat.le_trans hs hg.size))) (ownFrom_pure _ (fun (pre : List (NdIn w.heap.size w)) => c = .ret ∧ pre.all (fun x => nodeOkB x.key) = false))))
    ⟨⟨hbd, hbn⟩, ⟨hm0, hb0, Nat.le_refl _⟩, rfl⟩
    (fun x a' W => ∃ Bx, W0.heap.size ≤ Bx ∧ W.heap[Bx]? = some (.cells #[x.1.c0, x.1.c1, x.1.c2, x.1.c3, .int .i64 x.1.l] 106 (0, 0)) ∧
      a' = { tmps := #[Value.agg #[c0, c1, c2, c3], Value.pointer (some { block := w.heap.size, off := 0 }), Value.pointer (some { block := w.heap.size + 1, off := 0 }), Value.pointer (some { block := w1.heap.size, off := 0 }),
          Value.pointer (some { block := Bx, off := 0 }), undef, undef, Value.map (some (w.heap.size + 1 + 1)), Value.agg #[c0, c1, c2, c3],
          Value.func (Fn.func 104) #[] #[Value.pointer (some { block := w1.heap.size + 1, off := 0 })], x.val, undef,
          undef, undef, undef, undef, undef, undef, undef, undef, undef, undef, undef, undef, undef, undef, undef, undef, undef, undef, undef, undef], defers := [] })
    (fun x a' s X Y row hs hg hr => by
      obtain ⟨Bx, h1, h2, h3⟩ := hs
      exact ⟨Bx, h1, cells_own Bx 106 (fun _ : Unit => #[x.1.c0, x.1.c1, x.1.c2, x.1.c3, .int .i64 x.1.l]) () X Y row h2 hg (fun r e => (hr r e).2), h3⟩) ?assign ?body ?done ?stop
  case assign =>
    rintro l pre ⟨⟨d0, d1, d2, d3, ⟨k', n', s', as'⟩, lv⟩, hx, hlv⟩ W K ⟨⟨hi1, hi1'⟩, ⟨him, hi2, hiz⟩, hi3⟩ hK
    have hx0 := hx
    simp only [IsTm] at hx
    obtain ⟨rfl, _, rfl, _, rfl, _, a', cap', rfl, _, _⟩ := hx
    have hK' := hK _ _ ((KeepsOthers.alloc _ _).from _) ((Kept.refl _ _ W).alloc (by omega) (.cells #[.int .u8 k', .int .i64 n', .string s', .slice a' as'.length cap', .int .i64 lv] 106)) ⟨⟨hi1.alloc _, hi1'.alloc _⟩, ⟨(Below.heap_alloc _ _ _ (by omega)).trans him, hi2.alloc (by omega) _, by simp; omega⟩, hi3⟩ ⟨W.heap.size, hiz, World.alloc_heap_new _ _, rfl⟩
    clear hK
    have HK := Lib.hid hK'; clear hK' hi3
    simp only [NdIn.val]
    gi_wp2
    exact HK.out
  case body =>
    rintro l pre ⟨⟨d0, d1, d2, d3, ⟨k', n', s', as'⟩, lv⟩, hx, hlv⟩ a' W hl hrec ⟨⟨hi1, hi1'⟩, ⟨him, hi2, hiz⟩, hi3⟩ ⟨Bx, hBx, hbx, rfl⟩ hlt
    have hx0 := hx
    simp only [IsTm] at hx
    obtain ⟨rfl, hk, rfl, _, rfl, hs', a', cap', rfl, hm', _⟩ := hx
    simp only at hbx hlv
    have q0 := cells_at hbx 0 _ rfl
    have q1 := cells_at hbx 1 _ rfl
    have q2 := cells_at hbx 2 _ rfl
    have q3 := cells_at hbx 3 _ rfl
    have q4 := cells_at hbx 4 _ rfl
    have qd := hi1.cell
    have qf := hi1.frozen
    have qn := hi1'.cell
    have hlt1 : w.heap.size + 1 < W.heap.size := by omega
    have HI := Lib.hid hi3; clear hi3
    have hown : W.ownsMap Tryz.prog 5 fnElem (w.heap.size + 1 + 1) 6 reqD := ⟨es, clock, him, HFt.out, hes, HD.out⟩
    have hz62 : ∀ w, (zeroValue 148).run Tryz.prog w = .ok .nilFunc w := fun _ => by kernel_rfl
    have hwf : (Lit.int .u8 k').wf = true := WalkArith.wf_u8 hk
    have hv : ∀ b, nodeOkB (.mk k' n' s' as', lv) = b → (pre ++ [(⟨⟨.int .u8 k', .int .i64 n', .string s', .slice a' as'.length cap', .mk k' n' s' as', lv⟩, hx0, hlv⟩ : NdIn w.heap.size w)]).all (fun x => nodeOkB x.key) = b := by
      intro b hb
      rw [List.all_append, HI.out]; simp only [List.all_cons, List.all_nil, NdIn.key, hb, Bool.true_and, Bool.and_true]
    have HV := Lib.hid hv; clear hv
    have HX := Lib.hid hx0
    have HM := Lib.hid hm'
    have HS := Lib.hid hs'
    have hnode : nodeOkB (.mk k' n' s' as', lv) = (decide (lv ≤ 12) && reqB k' n' s' as'.length) := rfl
    have HN := Lib.hid hnode; clear hnode
    have HW := Lib.hid hwf; clear hwf
    have HZ := Lib.hid hz62; clear hz62
    have HO := Lib.hid hown; clear hown
    have hcs : k' = 1 ∨ k' = 2 ∨ k' = 3 ∨ k' = 4 ∨ k' = 5 ∨ k' = 6 ∨ ¬ (1 ≤ k' ∧ k' ≤ 6) := by omega

    rcases hcs with rfl | rfl | rfl | rfl | rfl | rfl | hno
    · have hh : Maps.has reqD (.int .u8 1) = true := rfl
      by_cases hl12 : lv ≤ 12
      · cases hq : reqB 1 n' s' as'.length
        · have HQ := Lib.hid (HV.out false (by rw [HN.out, hq, Bool.and_false]))
          gi_wp2_with (first | (gi_at_lookup; refine wpListIn_lookup_own_ok _ rfl _ _ 146 rfl 5 148 (Maps.int_keyed Tryz.underlying5) Tryz.underlying146 fnElem (HZ.out _) .nil [] rfl _ _ _ rfl HO.out (.int .u8 1) (.int .u8 1) rfl (Maps.keyOf_int_mk Tryz.underlying5 HW.out) ?_; intro v ps hv; obtain rfl := fnElem_inv (f := 140) hv; clear hv) | (refine ⟨trivial, ?_⟩; gi_at_call 140; refine (CallsIn.inRound l (callsIn_wide.2 (req1 _ _ _ _ _ _ _ _ HM.out))).mono ?_; rintro e W1 ⟨rfl, rfl⟩))
          exact ⟨((KeepsOthers.setCell _ _ _).trans (KeepsOthers.alloc _ _)).from _, ⟨(hi1.set _).alloc _, (hi1'.other (by omega) _).alloc _⟩, ⟨(Below.heap_alloc _ _ _ (by simp; omega)).trans ((Below.heap_setCell _ _ _ _ (by simp)).trans him), (hi2.setCell (p := ⟨w.heap.size + 1, 0, none⟩) (by simp) _).alloc (by simp; omega) _, by simp; omega⟩, rfl, HQ.out⟩
        · have HQ := Lib.hid (HV.out true (by rw [HN.out, hq, decide_eq_true hl12]; rfl))
          gi_wp2_with (first | (gi_at_lookup; refine wpListIn_lookup_own_ok _ rfl _ _ 146 rfl 5 148 (Maps.int_keyed Tryz.underlying5) Tryz.underlying146 fnElem (HZ.out _) .nil [] rfl _ _ _ rfl HO.out (.int .u8 1) (.int .u8 1) rfl (Maps.keyOf_int_mk Tryz.underlying5 HW.out) ?_; intro v ps hv; obtain rfl := fnElem_inv (f := 140) hv; clear hv) | (refine ⟨trivial, ?_⟩; gi_at_call 140; refine (CallsIn.inRound l (callsIn_wide.2 (req1 _ _ _ _ _ _ _ _ HM.out))).mono ?_; rintro e W1 ⟨rfl, rfl⟩))
          exact ⟨(KeepsOthers.alloc _ _).from _, (Kept.refl _ _ _).alloc (by omega) _, ⟨hi1.alloc _, hi1'.alloc _⟩, ⟨(Below.heap_alloc _ _ _ (by omega)).trans him, hi2.alloc (by omega) _, by simp; omega⟩, HQ.out⟩
      · have HQ := Lib.hid (HV.out false (by rw [HN.out, decide_eq_false hl12]; rfl))
        gi_wp2_with (first | (gi_at_lookup; refine wpListIn_lookup_own_ok _ rfl _ _ 146 rfl 5 148 (Maps.int_keyed Tryz.underlying5) Tryz.underlying146 fnElem (HZ.out _) .nil [] rfl _ _ _ rfl HO.out (.int .u8 1) (.int .u8 1) rfl (Maps.keyOf_int_mk Tryz.underlying5 HW.out) ?_; intro v ps hv; obtain rfl := fnElem_inv (f := 140) hv; clear hv) | (refine ⟨trivial, ?_⟩; gi_at_call 140; refine (CallsIn.inRound l (callsIn_wide.2 (req1 _ _ _ _ _ _ _ _ HM.out))).mono ?_; rintro e W1 ⟨rfl, rfl⟩))
        refine ⟨fun _ h => (by cases h), ?_⟩
        gi_wp2
        exact ⟨(KeepsOthers.setCell _ _ _).from _, ⟨hi1.set _, hi1'.other (by omega) _⟩, ⟨(Below.heap_setCell _ _ _ _ (by simp)).trans him, hi2.setCell (p := ⟨w.heap.size + 1, 0, none⟩) (by simp) _, by simp; omega⟩, rfl, HQ.out⟩
    · have hh : Maps.has reqD (.int .u8 2) = true := rfl
      by_cases hl12 : lv ≤ 12
      · cases hq : reqB 2 n' s' as'.length
        · have HQ := Lib.hid (HV.out false (by rw [HN.out, hq, Bool.and_false]))
          gi_wp2_with (first | (gi_at_lookup; refine wpListIn_lookup_own_ok _ rfl _ _ 146 rfl 5 148 (Maps.int_keyed Tryz.underlying5) Tryz.underlying146 fnElem (HZ.out _) .nil [] rfl _ _ _ rfl HO.out (.int .u8 2) (.int .u8 2) rfl (Maps.keyOf_int_mk Tryz.underlying5 HW.out) ?_; intro v ps hv; obtain rfl := fnElem_inv (f := 141) hv; clear hv) | (refine ⟨trivial, ?_⟩; gi_at_call 141; refine (CallsIn.inRound l (callsIn_wide.2 (req2 _ _ _ _ _ _ _ _ HM.out HS.out))).mono ?_; rintro e W1 ⟨rfl, rfl⟩))
          exact ⟨((KeepsOthers.setCell _ _ _).trans (KeepsOthers.alloc _ _)).from _, ⟨(hi1.set _).alloc _, (hi1'.other (by omega) _).alloc _⟩, ⟨(Below.heap_alloc _ _ _ (by simp; omega)).trans ((Below.heap_setCell _ _ _ _ (by simp)).trans him), (hi2.setCell (p := ⟨w.heap.size + 1, 0, none⟩) (by simp) _).alloc (by simp; omega) _, by simp; omega⟩, rfl, HQ.out⟩
        · have HQ := Lib.hid (HV.out true (by rw [HN.out, hq, decide_eq_true hl12]; rfl))
          gi_wp2_with (first | (gi_at_lookup; refine wpListIn_lookup_own_ok _ rfl _ _ 146 rfl 5 148 (Maps.int_keyed Tryz.underlying5) Tryz.underlying146 fnElem (HZ.out _) .nil [] rfl _ _ _ rfl HO.out (.int .u8 2) (.int .u8 2) rfl (Maps.keyOf_int_mk Tryz.underlying5 HW.out) ?_; intro v ps hv; obtain rfl := fnElem_inv (f := 141) hv; clear hv) | (refine ⟨trivial, ?_⟩; gi_at_call 141; refine (CallsIn.inRound l (callsIn_wide.2 (req2 _ _ _ _ _ _ _ _ HM.out HS.out))).mono ?_; rintro e W1 ⟨rfl, rfl⟩))
          exact ⟨(KeepsOthers.alloc _ _).from _, (Kept.refl _ _ _).alloc (by omega) _, ⟨hi1.alloc _, hi1'.alloc _⟩, ⟨(Below.heap_alloc _ _ _ (by omega)).trans him, hi2.alloc (by omega) _, by simp; omega⟩, HQ.out⟩
      · have HQ := Lib.hid (HV.out false (by rw [HN.out, decide_eq_false hl12]; rfl))
        gi_wp2_with (first | (gi_at_lookup; refine wpListIn_lookup_own_ok _ rfl _ _ 146 rfl 5 148 (Maps.int_keyed Tryz.underlying5) Tryz.underlying146 fnElem (HZ.out _) .nil [] rfl _ _ _ rfl HO.out (.int .u8 2) (.int .u8 2) rfl (Maps.keyOf_int_mk Tryz.underlying5 HW.out) ?_; intro v ps hv; obtain rfl := fnElem_inv (f := 141) hv; clear hv) | (refine ⟨trivial, ?_⟩; gi_at_call 141; refine (CallsIn.inRound l (callsIn_wide.2 (req2 _ _ _ _ _ _ _ _ HM.out HS.out))).mono ?_; rintro e W1 ⟨rfl, rfl⟩))
        refine ⟨fun _ h => (by cases h), ?_⟩
        gi_wp2
        exact ⟨(KeepsOthers.setCell _ _ _).from _, ⟨hi1.set _, hi1'.other (by omega) _⟩, ⟨(Below.heap_setCell _ _ _ _ (by simp)).trans him, hi2.setCell (p := ⟨w.heap.size + 1, 0, none⟩) (by simp) _, by simp; omega⟩, rfl, HQ.out⟩
    · have hh : Maps.has reqD (.int .u8 3) = true := rfl
      by_cases hl12 : lv ≤ 12
      · cases hq : reqB 3 n' s' as'.length
        · have HQ := Lib.hid (HV.out false (by rw [HN.out, hq, Bool.and_false]))
          gi_wp2_with (first | (gi_at_lookup; refine wpListIn_lookup_own_ok _ rfl _ _ 146 rfl 5 148 (Maps.int_keyed Tryz.underlying5) Tryz.underlying146 fnElem (HZ.out _) .nil [] rfl _ _ _ rfl HO.out (.int .u8 3) (.int .u8 3) rfl (Maps.keyOf_int_mk Tryz.underlying5 HW.out) ?_; intro v ps hv; obtain rfl := fnElem_inv (f := 142) hv; clear hv) | (refine ⟨trivial, ?_⟩; gi_at_call 142; refine (CallsIn.inRound l (callsIn_wide.2 (req3 _ _ _ _ _ _ _ _ HM.out HS.out))).mono ?_; rintro e W1 ⟨rfl, rfl⟩))
          exact ⟨((KeepsOthers.setCell _ _ _).trans (KeepsOthers.alloc _ _)).from _, ⟨(hi1.set _).alloc _, (hi1'.other (by omega) _).alloc _⟩, ⟨(Below.heap_alloc _ _ _ (by simp; omega)).trans ((Below.heap_setCell _ _ _ _ (by simp)).trans him), (hi2.setCell (p := ⟨w.heap.size + 1, 0, none⟩) (by simp) _).alloc (by simp; omega) _, by simp; omega⟩, rfl, HQ.out⟩
        · have HQ := Lib.hid (HV.out true (by rw [HN.out, hq, decide_eq_true hl12]; rfl))
          gi_wp2_with (first | (gi_at_lookup; refine wpListIn_lookup_own_ok _ rfl _ _ 146 rfl 5 148 (Maps.int_keyed Tryz.underlying5) Tryz.underlying146 fnElem (HZ.out _) .nil [] rfl _ _ _ rfl HO.out (.int .u8 3) (.int .u8 3) rfl (Maps.keyOf_int_mk Tryz.underlying5 HW.out) ?_; intro v ps hv; obtain rfl := fnElem_inv (f := 142) hv; clear hv) | (refine ⟨trivial, ?_⟩; gi_at_call 142; refine (CallsIn.inRound l (callsIn_wide.2 (req3 _ _ _ _ _ _ _ _ HM.out HS.out))).mono ?_; rintro e W1 ⟨rfl, rfl⟩))
          exact ⟨(KeepsOthers.alloc _ _).from _, (Kept.refl _ _ _).alloc (by omega) _, ⟨hi1.alloc _, hi1'.alloc _⟩, ⟨(Below.heap_alloc _ _ _ (by omega)).trans him, hi2.alloc (by omega) _, by simp; omega⟩, HQ.out⟩
      · have HQ := Lib.hid (HV.out false (by rw [HN.out, decide_eq_false hl12]; rfl))
        gi_wp2_with (first | (gi_at_lookup; refine wpListIn_lookup_own_ok _ rfl _ _ 146 rfl 5 148 (Maps.int_keyed Tryz.underlying5) Tryz.underlying146 fnElem (HZ.out _) .nil [] rfl _ _ _ rfl HO.out (.int .u8 3) (.int .u8 3) rfl (Maps.keyOf_int_mk Tryz.underlying5 HW.out) ?_; intro v ps hv; obtain rfl := fnElem_inv (f := 142) hv; clear hv) | (refine ⟨trivial, ?_⟩; gi_at_call 142; refine (CallsIn.inRound l (callsIn_wide.2 (req3 _ _ _ _ _ _ _ _ HM.out HS.out))).mono ?_; rintro e W1 ⟨rfl, rfl⟩))
        refine ⟨fun _ h => (by cases h), ?_⟩
        gi_wp2
        exact ⟨(KeepsOthers.setCell _ _ _).from _, ⟨hi1.set _, hi1'.other (by omega) _⟩, ⟨(Below.heap_setCell _ _ _ _ (by simp)).trans him, hi2.setCell (p := ⟨w.heap.size + 1, 0, none⟩) (by simp) _, by simp; omega⟩, rfl, HQ.out⟩
    · have hh : Maps.has reqD (.int .u8 4) = true := rfl
      by_cases hl12 : lv ≤ 12
      · cases hq : reqB 4 n' s' as'.length
        · have HQ := Lib.hid (HV.out false (by rw [HN.out, hq, Bool.and_false]))
          gi_wp2_with (first | (gi_at_lookup; refine wpListIn_lookup_own_ok _ rfl _ _ 146 rfl 5 148 (Maps.int_keyed Tryz.underlying5) Tryz.underlying146 fnElem (HZ.out _) .nil [] rfl _ _ _ rfl HO.out (.int .u8 4) (.int .u8 4) rfl (Maps.keyOf_int_mk Tryz.underlying5 HW.out) ?_; intro v ps hv; obtain rfl := fnElem_inv (f := 144) hv; clear hv) | (refine ⟨trivial, ?_⟩; gi_at_call 144; refine (CallsIn.inRound l (callsIn_wide.2 (req4 _ _ _ _ _ _ _ _ HM.out HS.out))).mono ?_; rintro e W1 ⟨rfl, rfl⟩))
          exact ⟨((KeepsOthers.setCell _ _ _).trans (KeepsOthers.alloc _ _)).from _, ⟨(hi1.set _).alloc _, (hi1'.other (by omega) _).alloc _⟩, ⟨(Below.heap_alloc _ _ _ (by simp; omega)).trans ((Below.heap_setCell _ _ _ _ (by simp)).trans him), (hi2.setCell (p := ⟨w.heap.size + 1, 0, none⟩) (by simp) _).alloc (by simp; omega) _, by simp; omega⟩, rfl, HQ.out⟩
        · have HQ := Lib.hid (HV.out true (by rw [HN.out, hq, decide_eq_true hl12]; rfl))
          gi_wp2_with (first | (gi_at_lookup; refine wpListIn_lookup_own_ok _ rfl _ _ 146 rfl 5 148 (Maps.int_keyed Tryz.underlying5) Tryz.underlying146 fnElem (HZ.out _) .nil [] rfl _ _ _ rfl HO.out (.int .u8 4) (.int .u8 4) rfl (Maps.keyOf_int_mk Tryz.underlying5 HW.out) ?_; intro v ps hv; obtain rfl := fnElem_inv (f := 144) hv; clear hv) | (refine ⟨trivial, ?_⟩; gi_at_call 144; refine (CallsIn.inRound l (callsIn_wide.2 (req4 _ _ _ _ _ _ _ _ HM.out HS.out))).mono ?_; rintro e W1 ⟨rfl, rfl⟩))
          exact ⟨(KeepsOthers.alloc _ _).from _, (Kept.refl _ _ _).alloc (by omega) _, ⟨hi1.alloc _, hi1'.alloc _⟩, ⟨(Below.heap_alloc _ _ _ (by omega)).trans him, hi2.alloc (by omega) _, by simp; omega⟩, HQ.out⟩
      · have HQ := Lib.hid (HV.out false (by rw [HN.out, decide_eq_false hl12]; rfl))
        gi_wp2_with (first | (gi_at_lookup; refine wpListIn_lookup_own_ok _ rfl _ _ 146 rfl 5 148 (Maps.int_keyed Tryz.underlying5) Tryz.underlying146 fnElem (HZ.out _) .nil [] rfl _ _ _ rfl HO.out (.int .u8 4) (.int .u8 4) rfl (Maps.keyOf_int_mk Tryz.underlying5 HW.out) ?_; intro v ps hv; obtain rfl := fnElem_inv (f := 144) hv; clear hv) | (refine ⟨trivial, ?_⟩; gi_at_call 144; refine (CallsIn.inRound l (callsIn_wide.2 (req4 _ _ _ _ _ _ _ _ HM.out HS.out))).mono ?_; rintro e W1 ⟨rfl, rfl⟩))
        refine ⟨fun _ h => (by cases h), ?_⟩
        gi_wp2
        exact ⟨(KeepsOthers.setCell _ _ _).from _, ⟨hi1.set _, hi1'.other (by omega) _⟩, ⟨(Below.heap_setCell _ _ _ _ (by simp)).trans him, hi2.setCell (p := ⟨w.heap.size + 1, 0, none⟩) (by simp) _, by simp; omega⟩, rfl, HQ.out⟩
    · have hh : Maps.has reqD (.int .u8 5) = true := rfl
      by_cases hl12 : lv ≤ 12
      · cases hq : reqB 5 n' s' as'.length
        · have HQ := Lib.hid (HV.out false (by rw [HN.out, hq, Bool.and_false]))
          gi_wp2_with (first | (gi_at_lookup; refine wpListIn_lookup_own_ok _ rfl _ _ 146 rfl 5 148 (Maps.int_keyed Tryz.underlying5) Tryz.underlying146 fnElem (HZ.out _) .nil [] rfl _ _ _ rfl HO.out (.int .u8 5) (.int .u8 5) rfl (Maps.keyOf_int_mk Tryz.underlying5 HW.out) ?_; intro v ps hv; obtain rfl := fnElem_inv (f := 145) hv; clear hv) | (refine ⟨trivial, ?_⟩; gi_at_call 145; refine (CallsIn.inRound l (callsIn_wide.2 (req5 _ _ _ _ _ _ _ _ HM.out))).mono ?_; rintro e W1 ⟨rfl, rfl⟩))
          exact ⟨((KeepsOthers.setCell _ _ _).trans (KeepsOthers.alloc _ _)).from _, ⟨(hi1.set _).alloc _, (hi1'.other (by omega) _).alloc _⟩, ⟨(Below.heap_alloc _ _ _ (by simp; omega)).trans ((Below.heap_setCell _ _ _ _ (by simp)).trans him), (hi2.setCell (p := ⟨w.heap.size + 1, 0, none⟩) (by simp) _).alloc (by simp; omega) _, by simp; omega⟩, rfl, HQ.out⟩
        · have HQ := Lib.hid (HV.out true (by rw [HN.out, hq, decide_eq_true hl12]; rfl))
          gi_wp2_with (first | (gi_at_lookup; refine wpListIn_lookup_own_ok _ rfl _ _ 146 rfl 5 148 (Maps.int_keyed Tryz.underlying5) Tryz.underlying146 fnElem (HZ.out _) .nil [] rfl _ _ _ rfl HO.out (.int .u8 5) (.int .u8 5) rfl (Maps.keyOf_int_mk Tryz.underlying5 HW.out) ?_; intro v ps hv; obtain rfl := fnElem_inv (f := 145) hv; clear hv) | (refine ⟨trivial, ?_⟩; gi_at_call 145; refine (CallsIn.inRound l (callsIn_wide.2 (req5 _ _ _ _ _ _ _ _ HM.out))).mono ?_; rintro e W1 ⟨rfl, rfl⟩))
          exact ⟨(KeepsOthers.alloc _ _).from _, (Kept.refl _ _ _).alloc (by omega) _, ⟨hi1.alloc _, hi1'.alloc _⟩, ⟨(Below.heap_alloc _ _ _ (by omega)).trans him, hi2.alloc (by omega) _, by simp; omega⟩, HQ.out⟩
      · have HQ := Lib.hid (HV.out false (by rw [HN.out, decide_eq_false hl12]; rfl))
        gi_wp2_with (first | (gi_at_lookup; refine wpListIn_lookup_own_ok _ rfl _ _ 146 rfl 5 148 (Maps.int_keyed Tryz.underlying5) Tryz.underlying146 fnElem (HZ.out _) .nil [] rfl _ _ _ rfl HO.out (.int .u8 5) (.int .u8 5) rfl (Maps.keyOf_int_mk Tryz.underlying5 HW.out) ?_; intro v ps hv; obtain rfl := fnElem_inv (f := 145) hv; clear hv) | (refine ⟨trivial, ?_⟩; gi_at_call 145; refine (CallsIn.inRound l (callsIn_wide.2 (req5 _ _ _ _ _ _ _ _ HM.out))).mono ?_; rintro e W1 ⟨rfl, rfl⟩))
        refine ⟨fun _ h => (by cases h), ?_⟩
        gi_wp2
        exact ⟨(KeepsOthers.setCell _ _ _).from _, ⟨hi1.set _, hi1'.other (by omega) _⟩, ⟨(Below.heap_setCell _ _ _ _ (by simp)).trans him, hi2.setCell (p := ⟨w.heap.size + 1, 0, none⟩) (by simp) _, by simp; omega⟩, rfl, HQ.out⟩
    · have hh : Maps.has reqD (.int .u8 6) = true := rfl
      by_cases hl12 : lv ≤ 12
      · cases hq : reqB 6 n' s' as'.length
        · have HQ := Lib.hid (HV.out false (by rw [HN.out, hq, Bool.and_false]))
          gi_wp2_with (first | (gi_at_lookup; refine wpListIn_lookup_own_ok _ rfl _ _ 146 rfl 5 148 (Maps.int_keyed Tryz.underlying5) Tryz.underlying146 fnElem (HZ.out _) .nil [] rfl _ _ _ rfl HO.out (.int .u8 6) (.int .u8 6) rfl (Maps.keyOf_int_mk Tryz.underlying5 HW.out) ?_; intro v ps hv; obtain rfl := fnElem_inv (f := 147) hv; clear hv) | (refine ⟨trivial, ?_⟩; gi_at_call 147; refine (CallsIn.inRound l (callsIn_wide.2 (req6 _ _ _ _ _ _ _ _ HM.out))).mono ?_; rintro e W1 ⟨rfl, rfl⟩))
          exact ⟨((KeepsOthers.setCell _ _ _).trans (KeepsOthers.alloc _ _)).from _, ⟨(hi1.set _).alloc _, (hi1'.other (by omega) _).alloc _⟩, ⟨(Below.heap_alloc _ _ _ (by simp; omega)).trans ((Below.heap_setCell _ _ _ _ (by simp)).trans him), (hi2.setCell (p := ⟨w.heap.size + 1, 0, none⟩) (by simp) _).alloc (by simp; omega) _, by simp; omega⟩, rfl, HQ.out⟩
        · have HQ := Lib.hid (HV.out true (by rw [HN.out, hq, decide_eq_true hl12]; rfl))
          gi_wp2_with (first | (gi_at_lookup; refine wpListIn_lookup_own_ok _ rfl _ _ 146 rfl 5 148 (Maps.int_keyed Tryz.underlying5) Tryz.underlying146 fnElem (HZ.out _) .nil [] rfl _ _ _ rfl HO.out (.int .u8 6) (.int .u8 6) rfl (Maps.keyOf_int_mk Tryz.underlying5 HW.out) ?_; intro v ps hv; obtain rfl := fnElem_inv (f := 147) hv; clear hv) | (refine ⟨trivial, ?_⟩; gi_at_call 147; refine (CallsIn.inRound l (callsIn_wide.2 (req6 _ _ _ _ _ _ _ _ HM.out))).mono ?_; rintro e W1 ⟨rfl, rfl⟩))
          exact ⟨(KeepsOthers.alloc _ _).from _, (Kept.refl _ _ _).alloc (by omega) _, ⟨hi1.alloc _, hi1'.alloc _⟩, ⟨(Below.heap_alloc _ _ _ (by omega)).trans him, hi2.alloc (by omega) _, by simp; omega⟩, HQ.out⟩
      · have HQ := Lib.hid (HV.out false (by rw [HN.out, decide_eq_false hl12]; rfl))
        gi_wp2_with (first | (gi_at_lookup; refine wpListIn_lookup_own_ok _ rfl _ _ 146 rfl 5 148 (Maps.int_keyed Tryz.underlying5) Tryz.underlying146 fnElem (HZ.out _) .nil [] rfl _ _ _ rfl HO.out (.int .u8 6) (.int .u8 6) rfl (Maps.keyOf_int_mk Tryz.underlying5 HW.out) ?_; intro v ps hv; obtain rfl := fnElem_inv (f := 147) hv; clear hv) | (refine ⟨trivial, ?_⟩; gi_at_call 147; refine (CallsIn.inRound l (callsIn_wide.2 (req6 _ _ _ _ _ _ _ _ HM.out))).mono ?_; rintro e W1 ⟨rfl, rfl⟩))
        refine ⟨fun _ h => (by cases h), ?_⟩
        gi_wp2
        exact ⟨(KeepsOthers.setCell _ _ _).from _, ⟨hi1.set _, hi1'.other (by omega) _⟩, ⟨(Below.heap_setCell _ _ _ _ (by simp)).trans him, hi2.setCell (p := ⟨w.heap.size + 1, 0, none⟩) (by simp) _, by simp; omega⟩, rfl, HQ.out⟩
    · have hh : Maps.has reqD (.int .u8 k') = false := req_none hno
      have HQ := Lib.hid (HV.out false (by rw [HN.out, reqB_none hno, Bool.and_false]))
      clear hno
      by_cases hl12 : lv ≤ 12
      · gi_wp2_with (gi_at_lookup; refine wpListIn_lookup_own_ok _ rfl _ _ 146 rfl 5 148 (Maps.int_keyed Tryz.underlying5) Tryz.underlying146 fnElem (HZ.out _) .nil [] rfl _ _ _ rfl HO.out (.int .u8 k') (.int .u8 k') rfl (Maps.keyOf_int_mk Tryz.underlying5 HW.out) ?_; intro v ps hv; clear hv)
        refine ⟨fun _ h => (by cases h), ?_⟩
        gi_wp2
        exact ⟨(KeepsOthers.setCell _ _ _).from _, ⟨hi1.set _, hi1'.other (by omega) _⟩, ⟨(Below.heap_setCell _ _ _ _ (by simp)).trans him, hi2.setCell (p := ⟨w.heap.size + 1, 0, none⟩) (by simp) _, by simp; omega⟩, rfl, HQ.out⟩
      · gi_wp2_with (gi_at_lookup; refine wpListIn_lookup_own_ok _ rfl _ _ 146 rfl 5 148 (Maps.int_keyed Tryz.underlying5) Tryz.underlying146 fnElem (HZ.out _) .nil [] rfl _ _ _ rfl HO.out (.int .u8 k') (.int .u8 k') rfl (Maps.keyOf_int_mk Tryz.underlying5 HW.out) ?_; intro v ps hv; clear hv)
        refine ⟨fun _ h => (by cases h), ?_⟩
        gi_wp2
        exact ⟨(KeepsOthers.setCell _ _ _).from _, ⟨hi1.set _, hi1'.other (by omega) _⟩, ⟨(Below.heap_setCell _ _ _ _ (by simp)).trans him, hi2.setCell (p := ⟨w.heap.size + 1, 0, none⟩) (by simp) _, by simp; omega⟩, rfl, HQ.out⟩
  case done =>
    rintro D ys W hD hys ⟨⟨hbx, _⟩, ⟨_, hB, hz⟩, hall⟩ hK
    have hc := hbx.cell
    have hf := hbx.frozen
    have HE := Lib.hid (all_of_pre (p := nodeOkB) hys hall); clear hys hall
    have hK' := (KeepsOthers.setCell W ⟨w.heap.size + 1, 0, none⟩ (.bool true)).same D _ hK rfl
    have hc5 := cell_kept (World.cell?_setCell_same' W ⟨w.heap.size + 1, 0, none⟩ (.bool true) (by rw [hc]; rfl)) (grownBy_putObj' _ D (.deferred none)) (fun r e => by cases e; exact ⟨_, hK', rfl⟩)
    have HC := Lib.hid hc5; clear hc5
    gi_wp2
    refine ⟨by simp, .inl ⟨_, _, rfl, run_takeDeferred hK', ?_⟩⟩
    have hc5 := HC.out
    refine ⟨.bool true, ?_, by rw [HG.out, HE.out], ?_⟩
    · simp [results, Tryz.f69, go_sem, hc5]
    · exact (hB.setCell (p := ⟨w.heap.size + 1, 0, none⟩) (by simp) _).trans (belowK_b (w := w) (Nat.le_refl _) _ D _ _ (by omega) hK' rfl rfl)
  case stop =>
    rintro D c pre W hD hys ⟨⟨hbx, _⟩, ⟨_, hB, hz⟩, rfl, hall⟩ hK
    have hc := hbx.cell
    have hf := hbx.frozen
    have HE := Lib.hid (not_all_of_pre (p := nodeOkB) hys hall); clear hys hall
    have hc5 := cell_kept hc (grownBy_putObj' _ D (.deferred none)) (fun r e => by cases e; exact ⟨_, hK, rfl⟩)
    have HC := Lib.hid hc5; clear hc5
    gi_wp2
    refine ⟨by simp, .inl ⟨_, _, rfl, run_takeDeferred hK, ?_⟩⟩
    have hc5 := HC.out
    refine ⟨.bool false, ?_, by rw [HG.out, HE.out], ?_⟩
    · simp [results, Tryz.f69, go_sem, hc5]
    · exact hB.trans (belowK_b (w := w) (Nat.le_refl _) _ D _ _ (by omega) hK rfl rfl)

theorem valid_any (t : Tm) (c0 c1 c2 c3 : Value) (w : World) (ht : IsTm w.heap.size w c0 c1 c2 c3 t) (hdep : t.depth < 4611686018427387900) :
    Calls Tryz.prog 69 #[.agg #[c0, c1, c2, c3]] w fun e w' => e = .returned (.bool t.validB) ∧ Below w.heap.size w w' :=
  callsIn_wide.1 (valid_in t c0 c1 c2 c3 w ht hdep)
end Go.Proofs.YtcoieohbmkjpoaaGreatDoor
namespace Go.Proofs.YtcoieohbmkjpoaaGreatDoor
open Go.RowKit Go.Sort

theorem below_grow (w : World) (k : Nat) (os : Array Obj) : Below w.heap.size w (grow (w.drewN k) os) :=
  ⟨rfl, rfl, rfl, by show w.heap.size ≤ (w.heap ++ os).size; simp, fun i hi => by show (w.heap ++ os)[i]? = _; rw [Array.getElem?_append, if_pos hi]⟩

theorem i64_bounds {n : Int} (h : I64 n) : -9223372036854775808 ≤ n ∧ n ≤ 9223372036854775807 := by
  unfold I64 Lit.wf at h
  simp only [Bool.and_eq_true, decide_eq_true_eq] at h
  exact h

theorem itoa_any (n : Int) (h : I64 n) (w : World) (htab : Lib.TabIs Tryz.prog w "internal/strconv.uint64pow10" .u64 Lib.pow10Tab) :
    Calls Tryz.prog 117 #[.int .i64 n] w fun e w' => e = .returned (.string ⟨(Lib.itoa n).toArray⟩) ∧ Below w.heap.size w w' :=
  (Tryz.strconv_Itoa n (i64_bounds h).1 (i64_bounds h).2 w htab).mono fun e w' ⟨he, k, os, hw⟩ => ⟨he, by rw [hw]; exact below_grow w k os⟩

theorem text_1 (n : Int) (s : ByteArray) (us : List Tm) : Tm.text (.mk 1 n s us) = Lib.itoa n := by simp only [Tm.text]; rfl
theorem text_4 (n : Int) (s : ByteArray) (us : List Tm) : Tm.text (.mk 4 n s us) = s.data.toList ++ (Tm.textF 40 us ++ [41]) := by simp only [Tm.text]; rfl
theorem text_5 (n : Int) (s : ByteArray) (us : List Tm) : Tm.text (.mk 5 n s us) = Tm.textO (strengthI 5 s us.length) us.length s.data.toList 0 us := by simp only [Tm.text]; rfl
theorem text_6 (n : Int) (s : ByteArray) (us : List Tm) : Tm.text (.mk 6 n s us) = Tm.textO (strengthI 6 s us.length) us.length [46, 46] 0 us := by simp only [Tm.text]; rfl
theorem text_0 (k n : Int) (s : ByteArray) (us : List Tm) (h : k ≠ 1 ∧ k ≠ 4 ∧ k ≠ 5 ∧ k ≠ 6) : Tm.text (.mk k n s us) = s.data.toList := by
  simp only [Tm.text]; rw [if_neg h.1, if_neg h.2.1, if_neg h.2.2.1, if_neg h.2.2.2]

set_option maxRecDepth 100000 in
set_option maxHeartbeats 2000000 in
theorem write_any (t : Tm) : WrAt t := by
  induction t using Tm.ind with
  | h k n s us ih =>
    intro B b acc c0 c1 c2 c3 w ht hb hlen hBw hgB htab
    have HTT := Lib.hid ht
    simp only [IsTm] at ht
    obtain ⟨rfl, hk, rfl, hnn, rfl, hs, a, cap, rfl, hl, hargs⟩ := ht
    have hBe : Below w.heap.size w (w.alloc (.cells #[.int .u8 k, .int .i64 n, .string s, .slice a us.length cap] 46)) := (Below.refl _ w).alloc (Nat.le_refl _) _
    have HX := Lib.hid (World.alloc_heap_new w (.cells #[.int .u8 k, .int .i64 n, .string s, .slice a us.length cap] 46))
    have HN := Lib.hid hnn
    have HB := Lib.hid (hb.below hBe)
    have HT := Lib.hid (tab_below hBe (by omega) htab)
    have HTE := Lib.hid (HTT.out.below (hBe.mono hBw))
    have HBE := Lib.hid hBe
    have HL := Lib.hid hlen
    have IH := Lib.hid ih
    clear hargs hBe hnn hb htab hlen ih
    have hcs : k = 1 ∨ k = 4 ∨ k = 5 ∨ k = 6 ∨ (k ≠ 1 ∧ k ≠ 4 ∧ k ≠ 5 ∧ k ≠ 6) := by omega
    rcases hcs with rfl | rfl | rfl | rfl | ⟨e1, e4, e5, e6⟩
    · have HC := Lib.hid (itoa_any n HN.out _ HT.out)
      go_enter Tryz.func91, Tryz.ntmps91
      go_wp2_with (go_at_call 117; refine HC.out.mono ?_)
      rintro e w2 ⟨rfl, hB2⟩
      have hl2 := HL.out
      rw [text_1] at hl2
      have HP := Lib.hid (put_any B b acc ⟨(Lib.itoa n).toArray⟩ w2 (HB.out.below hB2) (by show _ + (Lib.itoa n).toArray.size ≤ _; simpa using hl2) (by have := hB2.size; simp at this; omega))
      have HB2 := Lib.hid (HBE.out.trans (hB2.mono (by simp)))
      clear hB2 hl2
      go_wp2_with (go_at_call 116; refine HP.out.mono ?_)
      rintro e w3 ⟨rfl, hb3, hB3, hK3⟩
      have HB3 := Lib.hid hb3
      have HK3 := Lib.hid hK3
      clear hb3 hK3
      go_wp2_with fail
      go_end0
      exact ⟨rfl, by rw [text_1]; simpa using HB3.out, (HB2.out.mono hBw).trans hB3, (KeepT.below HB2.out).trans HK3.out⟩
    · have HC := Lib.hid (writeFunction_any 4 n s us IH.out B b acc _ _ _ _ _ HTE.out HB.out (by have := HL.out; rw [text_4] at this; exact this) (by simp; omega) hgB HT.out)
      go_enter Tryz.func91, Tryz.ntmps91
      go_wp2_with (go_at_call 118; refine HC.out.mono ?_)
      rintro e w3 ⟨rfl, hb3, hB3, hK3⟩
      have HB3 := Lib.hid hb3
      have HK3 := Lib.hid hK3
      clear hb3 hK3
      go_wp2_with fail
      go_end0
      exact ⟨rfl, by rw [text_4]; exact HB3.out, (HBE.out.mono hBw).trans hB3, (KeepT.below HBE.out).trans HK3.out⟩
    · have HC := Lib.hid (writeOperands_any 5 n s us IH.out s B b acc _ _ _ _ _ HTE.out HB.out (by have := HL.out; rw [text_5] at this; exact this) (by simp; omega) hgB HT.out)
      go_enter Tryz.func91, Tryz.ntmps91
      go_wp2_with (go_at_call 119; refine HC.out.mono ?_)
      rintro e w3 ⟨rfl, hb3, hB3, hK3⟩
      have HB3 := Lib.hid hb3
      have HK3 := Lib.hid hK3
      clear hb3 hK3
      go_wp2_with fail
      go_end0
      exact ⟨rfl, by rw [text_5]; exact HB3.out, (HBE.out.mono hBw).trans hB3, (KeepT.below HBE.out).trans HK3.out⟩
    · have HC := Lib.hid (writeOperands_any 6 n s us IH.out ⟨#[46, 46]⟩ B b acc _ _ _ _ _ HTE.out HB.out (by have := HL.out; rw [text_6] at this; exact this) (by simp; omega) hgB HT.out)
      go_enter Tryz.func91, Tryz.ntmps91
      go_wp2_with (go_at_call 119; refine HC.out.mono ?_)
      rintro e w3 rfl hb3 hB3 hK3
      have HB3 := Lib.hid hb3
      have HK3 := Lib.hid hK3
      clear hb3 hK3
      go_wp2_with fail
      go_end0
      exact ⟨rfl, by rw [text_6]; exact HB3.out, (HBE.out.mono hBw).trans hB3, (KeepT.below HBE.out).trans HK3.out⟩
    · have HTX := Lib.hid (text_0 k n s us ⟨e1, e4, e5, e6⟩)
      have HP := Lib.hid (put_any B b acc s _ HB.out (by have := HL.out; rw [HTX.out] at this; simpa using this) (by simp; omega))
      have g1 : (k == 1) = false := by simpa using e1
      have g4 : (k == 4) = false := by simpa using e4
      have g5 : (k == 5) = false := by simpa using e5
      have g6 : (k == 6) = false := by simpa using e6
      clear e1 e4 e5 e6
      go_enter Tryz.func91, Tryz.ntmps91
      go_wp2_with (go_at_call 116; refine HP.out.mono ?_)
      rintro e w3 ⟨rfl, hb3, hB3, hK3⟩
      have HB3 := Lib.hid hb3
      have HK3 := Lib.hid hK3
      clear hb3 hK3
      go_wp2_with fail
      go_end0
      exact ⟨rfl, by rw [HTX.out]; exact HB3.out, (HBE.out.mono hBw).trans hB3, (KeepT.below HBE.out).trans HK3.out⟩

def Tm.str (t : Tm) : ByteArray := if t.validB then ⟨t.text.toArray⟩ else ⟨#[]⟩

set_option maxRecDepth 100000 in
set_option maxHeartbeats 2000000 in
theorem string_any (t : Tm) (c0 c1 c2 c3 : Value) (w : World) (ht : IsTm w.heap.size w c0 c1 c2 c3 t) (hdep : t.depth < 4611686018427387900) (hlen : t.validB = true → t.text.length ≤ 140737488355328)
    (hgB : 3 < w.heap.size) (htab : Lib.TabIs Tryz.prog w "internal/strconv.uint64pow10" .u64 Lib.pow10Tab) :
    Calls Tryz.prog 59 #[.agg #[c0, c1, c2, c3]] w fun e w' => e = .returned (.string t.str) ∧ Below w.heap.size w w' := by
  have hs : t.str = if t.validB then ⟨t.text.toArray⟩ else ⟨#[]⟩ := rfl
  have HS := Lib.hid hs; clear hs
  have hBe : Below w.heap.size w (w.alloc (.cells #[c0, c1, c2, c3] 46)) := (Below.refl _ w).alloc (Nat.le_refl _) _
  have HX := Lib.hid (World.alloc_heap_new w (.cells #[c0, c1, c2, c3] 46))
  have HV := Lib.hid (valid_any t c0 c1 c2 c3 _ ((ht.below hBe).mono hBe.size) hdep)
  have HBE := Lib.hid hBe; clear hBe
  have HT := Lib.hid ht; clear ht
  have HTAB := Lib.hid htab; clear htab
  go_enter Tryz.func59, Tryz.ntmps59
  go_wp2_with (go_at_call 69; refine HV.out.mono ?_)
  clear HV
  rintro e w1 ⟨rfl, hB1⟩
  simp only [World.size_alloc] at hB1
  have hz1 := hB1.size
  simp only [World.size_alloc] at hz1
  have hx1 := (hB1.block _ (by omega)).trans HX.out
  have hBw1 : Below w.heap.size w w1 := HBE.out.trans (hB1.mono (by omega))
  cases hv : t.validB
  · have HVV := Lib.hid hv
    go_wp2
    go_ret
    exact ⟨by rw [HS.out, HVV.out]; rfl, hBw1⟩
  · have HVV := Lib.hid hv
    have hlt : w.heap.size < w1.heap.size := by omega
    have x0 := cells_at hx1 0 _ rfl
    have x1 := cells_at hx1 1 _ rfl
    have x2 := cells_at hx1 2 _ rfl
    have x3 := cells_at hx1 3 _ rfl
    have hfb := Lib.fresh_isBuilder 127 5 w1
    have hBe2 : Below w1.heap.size w1 (w1.alloc (.cells #[.pointer none, .slice none 0 0] 127)) := (Below.refl _ w1).alloc (Nat.le_refl _) _
    have hBw2 : Below w.heap.size w (w1.alloc (.cells #[.pointer none, .slice none 0 0] 127)) := hBw1.trans (hBe2.mono (by omega))
    have HW := Lib.hid (write_any t w1.heap.size w1.heap.size [] c0 c1 c2 c3 _ ((HT.out.below hBw2).mono (by omega)) hfb (by have := hlen HVV.out; simpa using this) hBe2.size (by omega) (tab_below hBw2 hgB HTAB.out))
    have HBW2 := Lib.hid hBw2
    have HB1 := Lib.hid hBw1
    clear hfb hBe2 hBw2 hx1 hB1 hBw1 hlen
    go_wp2_with (go_at_call 91; refine HW.out.mono ?_)
    clear HW
    rintro e w3 ⟨rfl, hb3, hB3, hK3⟩
    have hz3 := hB3.size
    simp only [World.size_alloc] at hz3
    have HST := Lib.hid (Tryz.Builder_String_any w1.heap.size w1.heap.size t.text w3 (by simpa using hb3) (by omega))
    have HB3 := Lib.hid hB3
    clear hb3 hK3 hB3
    go_wp2_with (go_at_call 92; refine HST.out.mono ?_)
    rintro e w4 ⟨rfl, hB4⟩
    have HB4 := Lib.hid hB4
    clear hB4
    go_wp2_with fail
    go_ret
    exact ⟨by rw [HS.out, HVV.out]; rfl, (HBW2.out.trans (HB3.out.mono (by omega))).trans (HB4.out.mono (by omega))⟩
end Go.Proofs.YtcoieohbmkjpoaaGreatDoor
namespace Go.Proofs.YtcoieohbmkjpoaaGreatDoor
open Go.RowKit

def undN (l : List UInt8) : Nat := (l.takeWhile (· == 95)).length
def anonB (s : ByteArray) : Bool := Lib.hasPrefix s.data.toList [95] && allB digitB ⟨(Lib.trimPrefix s.data.toList [95]).toArray⟩
theorem anon_eq (s : ByteArray) : anonB s = (decide (1 ≤ undN s.data.toList) && (s.data.toList.drop 1).all fun b => digitB b.toNat) := by
  unfold anonB
  generalize s.data.toList = l
  cases l with
  | nil => rfl
  | cons c r =>
    by_cases h : c = 95
    · subst h
      simp [Lib.hasPrefix, Lib.trimPrefix, allB, undN, List.isPrefixOf]
    · have h1 : (c == 95) = false := by simpa using h
      have h2 : ((95 : UInt8) == c) = false := by rw [beq_eq_false_iff_ne]; exact fun e => h e.symm
      simp [Lib.hasPrefix, undN, List.isPrefixOf, h1, h2]
def wrd (c : UInt8) : Bool := wordB c.toNat
def dig (c : UInt8) : Bool := digitB c.toNat
/-- A list of bytes of words that doesn't begin with a digit. -/
def NameL (l : List UInt8) : Prop := (∃ c r, l = c :: r ∧ dig c = false) ∧ ∀ c ∈ l, wrd c = true
theorem low_nodig (c : Int) (h : lowerB c = true) : digitB c = false := by
  unfold lowerB digitB at *
  simp only [Bool.and_eq_true, decide_eq_true_eq] at h
  rw [Bool.and_eq_false_iff, decide_eq_false_iff_not, decide_eq_false_iff_not]; omega
theorem up_nodig (c : Int) (h : upperB c = true) : digitB c = false := by
  unfold upperB digitB at *
  simp only [Bool.and_eq_true, decide_eq_true_eq] at h
  rw [Bool.and_eq_false_iff, decide_eq_false_iff_not, decide_eq_false_iff_not]; omega
theorem dig_wrd (c : UInt8) (h : dig c = true) : wrd c = true := by
  unfold dig at h; unfold wrd wordB; rw [h]; simp
theorem tw_mem {p : UInt8 → Bool} : ∀ (l : List UInt8) (c : UInt8), c ∈ l.takeWhile p → p c = true
  | [], c, h => by simp at h
  | x :: r, c, h => by
    rw [List.takeWhile_cons] at h
    split at h
    · rename_i hx
      rcases List.mem_cons.1 h with rfl | h1
      · exact hx
      · exact tw_mem r c h1
    · simp at h
theorem nameL_named {st : Int → Bool} (hst : ∀ c, st c = true → digitB c = false) {s : ByteArray} (h : namedB st s = true) : NameL s.data.toList := by
  unfold namedB Lib.trimLeftB at h
  have hsp := List.takeWhile_append_dropWhile (p := (· == (95 : UInt8))) (l := s.data.toList)
  have htw : ∀ c ∈ s.data.toList.takeWhile (· == (95 : UInt8)), c = 95 := fun c hc => by
    have := tw_mem _ _ hc
    simpa using this
  generalize s.data.toList = l at *
  generalize l.takeWhile (· == (95 : UInt8)) = a at *
  cases hd : l.dropWhile (· == (95 : UInt8)) with
  | nil => rw [hd] at h; simp [namedL] at h
  | cons c r =>
    rw [hd] at h hsp
    simp only [namedL, Bool.and_eq_true] at h
    obtain ⟨h1, h2⟩ := h
    unfold allB at h2
    have h2' : ∀ x ∈ c :: r, wordB x.toNat = true := fun x hx => List.all_eq_true.1 h2 x hx
    refine ⟨?_, fun x hx => ?_⟩
    · cases a with
      | nil => exact ⟨c, r, by rw [← hsp]; rfl, hst _ h1⟩
      | cons y z =>
        have := htw y (List.mem_cons_self ..)
        subst this
        exact ⟨95, z ++ c :: r, by rw [← hsp]; rfl, by decide +kernel⟩
    · rw [← hsp] at hx
      rcases List.mem_append.1 hx with h3 | h3
      · rw [htw x h3]; decide +kernel
      · exact h2' x h3
theorem nameL_anon {s : ByteArray} (h : anonB s = true) : NameL s.data.toList := by
  rw [anon_eq, Bool.and_eq_true] at h
  obtain ⟨h1, h2⟩ := h
  have h1' := of_decide_eq_true h1
  generalize s.data.toList = l at *
  cases l with
  | nil => simp [undN] at h1'
  | cons c r =>
    have hc : c = 95 := by
      apply Decidable.byContradiction; intro hn
      have : undN (c :: r) = 0 := by unfold undN; rw [List.takeWhile_cons, if_neg (by simpa using hn)]; rfl
      omega
    subst hc
    refine ⟨⟨95, r, rfl, by decide +kernel⟩, fun x hx => ?_⟩
    rcases List.mem_cons.1 hx with h3 | h3
    · rw [h3]; decide +kernel
    · exact dig_wrd _ (List.all_eq_true.1 h2 x h3)
theorem nameL_symbol {s : ByteArray} (h : symbolB s = true) : NameL s.data.toList := by
  unfold symbolB at h
  rw [Bool.and_eq_true] at h
  exact nameL_named low_nodig h.2
theorem nameL_variable {s : ByteArray} (h : variableB s = true) : NameL s.data.toList := by
  unfold variableB at h
  rw [Bool.and_eq_true, Bool.or_eq_true] at h
  rcases h.2 with h2 | h2
  · exact nameL_named up_nodig h2
  · exact nameL_anon h2
theorem variable_nosymbol {s : ByteArray} (hv : variableB s = true) : symbolB s = false := by
  rw [Bool.eq_false_iff]
  intro h
  unfold symbolB at h
  unfold variableB at hv
  rw [Bool.and_eq_true] at h
  rw [Bool.and_eq_true, Bool.or_eq_true] at hv
  have hn := h.2
  rcases hv.2 with h2 | h2
  · unfold namedB at hn h2
    generalize Lib.trimLeftB s.data.toList 95 = l at hn h2
    cases l with
    | nil => simp [namedL] at hn
    | cons c r =>
      simp only [namedL, Bool.and_eq_true] at hn h2
      have h3 := hn.1
      have h4 := h2.1
      unfold lowerB at h3
      unfold upperB at h4
      simp only [Bool.and_eq_true, decide_eq_true_eq] at h3 h4
      omega
  · have ha : anonB s = true := h2
    rw [anon_eq, Bool.and_eq_true] at ha
    have h1' := of_decide_eq_true ha.1
    have h2' := ha.2
    unfold namedB Lib.trimLeftB at hn
    generalize s.data.toList = l at *
    cases l with
    | nil => simp [undN] at h1'
    | cons c r =>
      have hc : c = 95 := by
        apply Decidable.byContradiction; intro hne
        have : undN (c :: r) = 0 := by unfold undN; rw [List.takeWhile_cons, if_neg (by simpa using hne)]; rfl
        omega
      subst hc
      rw [List.dropWhile_cons, if_pos (by rfl)] at hn
      cases hd : r.dropWhile (· == (95 : UInt8)) with
      | nil => rw [hd] at hn; simp [namedL] at hn
      | cons d q =>
        rw [hd] at hn
        simp only [namedL, Bool.and_eq_true] at hn
        have hm : d ∈ r := (List.dropWhile_sublist (· == (95 : UInt8))).subset (by rw [hd]; exact List.mem_cons_self ..)
        have h3 := low_nodig _ hn.1
        have h4 := List.all_eq_true.1 h2' d hm
        rw [h3] at h4; cases h4

/-! ### Numerals -/
def dval (l : List UInt8) : Nat := l.foldl (fun a c => a * 10 + (c.toNat - 48)) 0
theorem digit_of {d : Nat} (h : d < 10) : (UInt8.ofNat (48 + d)).toNat = 48 + d := by
  rw [UInt8.toNat_ofNat']; exact Nat.mod_eq_of_lt (by omega)
theorem dec_dig (u : Nat) : ∀ c ∈ Lib.decDigits u, dig c = true := by
  have hd : ∀ d, d < 10 → dig (UInt8.ofNat (48 + d)) = true := fun d h => by
    unfold dig digitB
    rw [digit_of h]
    simp only [Bool.and_eq_true, decide_eq_true_eq]; omega
  induction u using Nat.strongRecOn with
  | _ u ih =>
    intro c hc
    rw [Lib.decDigits] at hc
    split at hc
    · rename_i h
      have : c = UInt8.ofNat (48 + u) := by simpa using hc
      rw [this]; exact hd u h
    · rcases List.mem_append.1 hc with h1 | h1
      · exact ih (u / 10) (by omega) c h1
      · have : c = UInt8.ofNat (48 + u % 10) := by simpa using h1
        rw [this]; exact hd _ (Nat.mod_lt _ (by omega))
theorem dec_dval (u : Nat) : dval (Lib.decDigits u) = u := by
  induction u using Nat.strongRecOn with
  | _ u ih =>
    rw [Lib.decDigits]
    split
    · rename_i h
      unfold dval
      rw [List.foldl_cons, List.foldl_nil, digit_of h]; omega
    · have h := ih (u / 10) (by omega)
      unfold dval at h ⊢
      rw [List.foldl_append, h, List.foldl_cons, List.foldl_nil, digit_of (Nat.mod_lt _ (by omega))]
      omega
theorem dec_nonempty (u : Nat) : ∃ c r, Lib.decDigits u = c :: r := by
  cases h : Lib.decDigits u with
  | nil =>
    have h1 := congrArg List.length h
    rw [Lib.decDigits_length, List.length_nil] at h1
    have h2 := Lib.nDigits_pos u
    omega
  | cons c r => exact ⟨c, r, rfl⟩

/-! ### A run of bytes and what follows -/
theorem run_stop {p : UInt8 → Bool} {l rest : List UInt8} (h : ∀ c ∈ l, p c = true) (hr : rest = [] ∨ ∃ c r, rest = c :: r ∧ p c = false) :
    (l ++ rest).takeWhile p = l ∧ (l ++ rest).dropWhile p = rest := by
  induction l with
  | nil =>
    rcases hr with rfl | ⟨c, r, rfl, hc⟩
    · exact ⟨rfl, rfl⟩
    · rw [List.nil_append, List.takeWhile_cons, List.dropWhile_cons, if_neg (by rw [hc]; simp), if_neg (by rw [hc]; simp)]
      exact ⟨rfl, rfl⟩
  | cons x r ih =>
    have hx := h x (List.mem_cons_self ..)
    obtain ⟨h1, h2⟩ := ih (fun c hc => h c (List.mem_cons_of_mem _ hc))
    rw [List.cons_append, List.takeWhile_cons, List.dropWhile_cons, if_pos hx, if_pos hx, h1, h2]
    exact ⟨rfl, rfl⟩
end Go.Proofs.YtcoieohbmkjpoaaGreatDoor
namespace Go.Proofs.YtcoieohbmkjpoaaGreatDoor
open Go.RowKit

def mergeFrom (a : Array Value) : Nat → List Bool → List Value → List Value
  | i, false :: m, v :: r => v :: mergeFrom a (i + 1) m r
  | i, true :: m, _ :: r => a.getD i undef :: mergeFrom a (i + 1) m r
  | _, _, _ => []
theorem merge_length (a : Array Value) : ∀ (m : List Bool) (l : List Value) (i : Nat), m.length = l.length → (mergeFrom a i m l).length = l.length
  | [], [], _, _ => rfl
  | false :: m, v :: r, i, h => by simp only [mergeFrom, List.length_cons]; rw [merge_length a m r _ (by simpa using h)]
  | true :: m, v :: r, i, h => by simp only [mergeFrom, List.length_cons]; rw [merge_length a m r _ (by simpa using h)]
  | [], _ :: _, _, h => by simp at h
  | _ :: _, [], _, h => by simp at h
theorem merge_at (a : Array Value) : ∀ (m : List Bool) (l : List Value) (i : Nat), m.length = l.length → (∀ j, m[j]? = some false → l[j]? = some (a.getD (i + j) undef)) → ∀ j, j < l.length → (mergeFrom a i m l)[j]? = some (a.getD (i + j) undef)
  | [], [], _, _, _, j, hj => by simp at hj
  | false :: m, v :: r, i, h, ho, j, hj => by
    cases j with
    | zero =>
      have := ho 0 rfl
      simpa [mergeFrom] using this
    | succ j =>
      have := merge_at a m r (i + 1) (by simpa using h) (fun q hq => by
        have := ho (q + 1) (by simpa using hq)
        rw [show i + (q + 1) = i + 1 + q by omega] at this
        simpa using this) j (by simpa using hj)
      rw [show i + (j + 1) = i + 1 + j by omega]
      simpa [mergeFrom] using this
  | true :: m, v :: r, i, h, ho, j, hj => by
    cases j with
    | zero => simp [mergeFrom]
    | succ j =>
      have := merge_at a m r (i + 1) (by simpa using h) (fun q hq => by
        have := ho (q + 1) (by simpa using hq)
        rw [show i + (q + 1) = i + 1 + q by omega] at this
        simpa using this) j (by simpa using hj)
      rw [show i + (j + 1) = i + 1 + j by omega]
      simpa [mergeFrom] using this
  | [], _ :: _, _, h, _, _, _ => by simp at h
  | _ :: _, [], _, h, _, _, _ => by simp at h
/-- The frame behind a drawn region, merged. -/
theorem slots_merge {ops : Array Oper} {a : Array Value} {l : List Value} (m : List Bool) (n : Nat) (hs : a.size = l.toArray.size) (hn : l.length = n) (hm : (List.range n).map (fun t => !(noDst ops t)) = m)
    (ho : ∀ t, noDst ops t = true → a.getD t undef = l.toArray.getD t undef) : a = (mergeFrom a 0 m l).toArray := by
  have hml : m.length = l.length := by rw [← hm, hn]; simp
  apply Array.ext
  · have h1 : (mergeFrom a 0 m l).toArray.size = l.length := by simp [merge_length a m l 0 hml]
    have h2 : a.size = l.length := by simpa using hs
    omega
  · intro i h1 h2
    have hi : i < l.length := by simpa [merge_length a m l 0 hml] using h2
    have := merge_at a m l 0 hml (fun j hj => by
      rw [← hm, List.getElem?_map] at hj
      have hjn : j < n := by
        apply Decidable.byContradiction; intro hc
        rw [List.getElem?_eq_none (by simpa using hc)] at hj; cases hj
      rw [List.getElem?_range hjn] at hj
      simp only [Option.map_some, Option.some.injEq, Bool.not_eq_false'] at hj
      have h3 := ho j hj
      rw [Nat.zero_add, h3]
      have : j < l.length := by omega
      simp [Array.getD_eq_getD_getElem?, this]) i hi
    rw [Nat.zero_add] at this
    have h4 := List.getElem?_eq_getElem (l := mergeFrom a 0 m l) (i := i) (by simpa using h2)
    rw [h4] at this
    have h5 : (mergeFrom a 0 m l)[i] = a.getD i undef := by simpa using this
    simp only [List.getElem_toArray]
    rw [h5]
    simp [Array.getD_eq_getD_getElem?, h1]
end Go.Proofs.YtcoieohbmkjpoaaGreatDoor
namespace Go.Proofs.YtcoieohbmkjpoaaGreatDoor
open Go.RowKit

/-- The writing operations wait for one another. -/
def phaseOk (ops : Array Oper) (ms : List Nat) : Bool := (List.range ms.length).all fun q => (List.range q).all fun q' => decide (ms.getD q' 0 < ms.getD q 0) && waitsT ops ops.size (ms.getD q 0) (ms.getD q' 0)
theorem phaseOk_spec {ops : Array Oper} {ms : List Nat} (h : phaseOk ops ms = true) {q q' m m' : Nat} (hq : ms[q]? = some m) (hq' : ms[q']? = some m') (hlt : q' < q) : m' < m ∧ waitsT ops ops.size m m' = true := by
  unfold phaseOk at h
  have h1 : q < ms.length := (List.getElem?_eq_some_iff.1 hq).1
  have h2 := List.all_eq_true.1 (List.all_eq_true.1 h q (List.mem_range.2 h1)) q' (List.mem_range.2 hlt)
  rw [Bool.and_eq_true] at h2
  have e1 : ms.getD q 0 = m := by simp [List.getD, hq]
  have e2 : ms.getD q' 0 = m' := by simp [List.getD, hq']
  rw [e1, e2] at h2
  exact ⟨of_decide_eq_true h2.1, h2.2⟩
structure PhInv (ops : Array Oper) (ms : List Nat) (W : Nat → World → Prop) (Φ : Facts) (a0 : Act) (listed : Array Bool) (a : Act) (w : World) : Prop where
  size : listed.size = ops.size
  closed : ListedOk ops listed
  phase : ∃ p, p ≤ ms.length ∧ (∀ q m, ms[q]? = some m → (listed.getD m false = true ↔ q < p)) ∧ W p w
  defers : a.defers = a0.defers
  tmps : a.tmps.size = a0.tmps.size
  outer : ∀ t, noDst ops t = true → a.tmps.getD t undef = a0.tmps.getD t undef
  facts : ∀ i o d, ops[i]? = some o → listed.getD i false = true → o.dst = some d → Φ i (a.tmps.getD d undef) w
/-- Where operation i has come to. -/
def SteppedP (ops : Array Oper) (ms : List Nat) (W : Nat → World → Prop) (Φ : Facts) (p i : Nat) (o : Oper) (a : Act) (w : World) (a' : Act) (w' : World) : Prop :=
  ∃ v, a' = a.put o.dst v ∧ (if i ∈ ms then W (p + 1) w' else W p w') ∧ (∀ d, o.dst = some d → Φ i v w') ∧ ∀ j u, j ≠ i → waitsT ops ops.size j i = false → Φ j u w → Φ j u w'
theorem SteppedP.grow {ops : Array Oper} {ms : List Nat} {W : Nat → World → Prop} {Φ : Facts} {p i : Nat} {o : Oper} {a : Act} {w w' : World} {v : Value} {tm : Array Value} {df : List Deferred} (hv : tm = (a.put o.dst v).tmps) (hf : a.defers = df) (hi : i ∉ ms) (hW : W p w') (hΦ : Φ i v w') (hb : Below w.heap.size w w')
    (hst : ∀ i v w w', Φ i v w → Below w.heap.size w w' → Φ i v w') : SteppedP ops ms W Φ p i o a w ⟨tm, df⟩ w' := by
  refine ⟨v, ?_, by rw [if_neg hi]; exact hW, fun _ _ => hΦ, fun j u _ _ h => hst j u w w' h hb⟩
  subst hv hf
  cases o.dst <;> rfl
theorem SteppedP.write {ops : Array Oper} {ms : List Nat} {W : Nat → World → Prop} {Φ : Facts} {p i : Nat} {o : Oper} {a : Act} {w w' : World} {v : Value} {tm : Array Value} {df : List Deferred} (hv : tm = (a.put o.dst v).tmps) (hf : a.defers = df) (hi : i ∈ ms) (hW : W (p + 1) w') (hΦ : ∀ d, o.dst = some d → Φ i v w')
    (hst : ∀ j u, j ≠ i → waitsT ops ops.size j i = false → Φ j u w → Φ j u w') : SteppedP ops ms W Φ p i o a w ⟨tm, df⟩ w' := by
  refine ⟨v, ?_, by rw [if_pos hi]; exact hW, hΦ, hst⟩
  subst hv hf
  cases o.dst <;> rfl
/-- What operation i owes: in the phase that its waiting and being waited for allow. -/
def StepP (P : Program) (ops : Array Oper) (ms : List Nat) (W : Nat → World → Prop) (Q : Exit → Act → World → Prop) (Φ : Facts) (a0 : Act) (i : Nat) (o : Oper) : Prop :=
  ∀ p a w, W p w → (∀ q m, ms[q]? = some m → (m = i ∨ waitsT ops ops.size m i = true) → p ≤ q) → (∀ q m, ms[q]? = some m → waitsT ops ops.size i m = true → q < p) → a.defers = a0.defers → a.tmps.size = a0.tmps.size →
    (∀ t, noDst ops t = true → a.tmps.getD t undef = a0.tmps.getD t undef) →
    (∀ j oj d, waitsFor o j = true → ops[j]? = some oj → oj.dst = some d → Φ j (a.tmps.getD d undef) w) →
    Region.wanted o (yielded ops a.tmps) = true ∧ o.wp P a w (SteppedP ops ms W Φ p i o a w) Q
theorem PhInv.put {ops : Array Oper} {ms : List Nat} {W : Nat → World → Prop} {Φ : Facts} {a0 : Act} (hok : regionOk ops a0.tmps.size = true) (hph : phaseOk ops ms = true)
    {listed : Array Bool} {a : Act} {w : World} (hJ : PhInv ops ms W Φ a0 listed a w) {i p : Nat} {o : Oper} (ho : ops[i]? = some o) (hil : listed.getD i false = false) (hie : ∀ e ∈ o.after, Region.binds .any e = true → listed.getD e.on false = true)
    (hp : p ≤ ms.length) (hpl : ∀ q m, ms[q]? = some m → (listed.getD m false = true ↔ q < p)) {v : Value} {w' : World} (hW : (if i ∈ ms then W (p + 1) w' else W p w')) (hv : ∀ d, o.dst = some d → Φ i v w')
    (hk : ∀ j u, j ≠ i → waitsT ops ops.size j i = false → Φ j u w → Φ j u w') :
    PhInv ops ms W Φ a0 (listed.setIfInBounds i true) (a.put o.dst v) w' := by
  have hi := (Array.getElem?_eq_some_iff.1 ho).1
  have hls := hJ.size
  have hcl := hJ.closed
  have hset : ∀ j, (listed.setIfInBounds i true).getD j false = true ↔ (j = i ∨ listed.getD j false = true) := by
    intro j
    by_cases e : j = i
    · subst e; simp [Array.getD_eq_getD_getElem?, hls, hi]
    · rw [getD_set_ne e]; simp [e]
  refine ⟨by simp [hls], hcl.set hls ho hie, ?_, ?_, ?_, ?_, ?_⟩
  · by_cases him : i ∈ ms
    · rw [if_pos him] at hW
      obtain ⟨q, hq⟩ := List.getElem?_of_mem him
      have hql : q < ms.length := (List.getElem?_eq_some_iff.1 hq).1
      have h1 : ¬ q < p := fun h => by rw [(hpl q i hq).2 h] at hil; cases hil
      have h2 : p = q := by
        apply Decidable.byContradiction
        intro hne
        have hpq : p < q := by omega
        obtain ⟨m', hm'⟩ : ∃ m', ms[p]? = some m' := ⟨_, List.getElem?_eq_getElem (by omega)⟩
        have h3 := (phaseOk_spec hph hq hm' hpq).2
        have h4 := waits_listed hcl m' ops.size i o ho hie h3
        have := (hpl p m' hm').1 h4
        omega
      subst h2
      refine ⟨p + 1, by omega, fun q' m' hq' => ?_, hW⟩
      rw [hset, hpl q' m' hq']
      constructor
      · rintro (rfl | h)
        · rcases Nat.lt_trichotomy q' p with h | h | h
          · omega
          · omega
          · have := (phaseOk_spec hph hq' hq h).1; omega
        · omega
      · intro h
        rcases Nat.lt_or_ge q' p with h5 | h5
        · exact Or.inr h5
        · have : q' = p := by omega
          subst this
          rw [hq] at hq'
          exact Or.inl (Option.some.inj hq').symm
    · rw [if_neg him] at hW
      refine ⟨p, hp, fun q' m' hq' => ?_, hW⟩
      rw [hset, ← hpl q' m' hq']
      constructor
      · rintro (rfl | h)
        · exact absurd (List.mem_of_getElem? hq') him
        · exact h
      · exact Or.inr
  · rw [← hJ.defers]; cases o.dst <;> rfl
  · rw [← hJ.tmps]; cases o.dst <;> simp [Act.put]
  · intro t ht
    rw [← hJ.outer t ht]
    cases hd : o.dst with
    | none => rfl
    | some d =>
      have hne : d ≠ t := fun e => noDst_spec ht i o ho (by rw [hd, e])
      simp [Act.put, Array.getD_eq_getD_getElem?, Array.getElem?_setIfInBounds_ne hne]
  · intro j oj d hoj hlj hd
    by_cases hji : j = i
    · subst hji
      obtain rfl : oj = o := by rw [ho] at hoj; exact (Option.some.inj hoj).symm
      have hdn := ((regionOk_spec hok j oj ho).2 d hd).1
      rw [hd]
      have e : (a.put (some d) v).tmps.getD d undef = v := by
        have : d < a.tmps.size := by rw [hJ.tmps]; exact hdn
        simp [Act.put, Array.getD_eq_getD_getElem?, this]
      rw [e]
      exact hv d hd
    · have hlj' : listed.getD j false = true := by
        rcases (hset j).1 hlj with h | h
        · exact absurd h hji
        · exact h
      have hwt : waitsT ops ops.size j i = false := by
        cases hq : waitsT ops ops.size j i with
        | false => rfl
        | true =>
          have := waits_listed hcl i ops.size j oj hoj (hcl j oj hoj hlj') hq
          rw [this] at hil; cases hil
      have hf0 := hk j _ hji hwt (hJ.facts j oj d hoj hlj' hd)
      cases hd' : o.dst with
      | none => exact hf0
      | some d' =>
        have hne : d' ≠ d := by
          intro e
          subst e
          rcases Nat.lt_or_gt_of_ne hji with h | h
          · exact ((regionOk_spec hok i o ho).2 d' hd').2 j oj h hoj hd
          · exact ((regionOk_spec hok j oj hoj).2 d' hd).2 i o h ho hd'
        simpa [Act.put, Array.getD_eq_getD_getElem?, Array.getElem?_setIfInBounds_ne hne] using hf0
/-- The rule. -/
theorem wp_region_phase {P : Program} {ops : Array Oper} {Q : Exit → Act → World → Prop} {id : Nat} {a0 : Act} {w0 : World} (hm : P.follows .mixedOrders = true) (ms : List Nat) (W : Nat → World → Prop) (Φ : Facts)
    (hok : regionOk ops a0.tmps.size = true) (hph : phaseOk ops ms = true) (hms : ∀ m ∈ ms, m < ops.size) (start : W 0 w0.drew)
    (step : ∀ i o, ops[i]? = some o → StepP P ops ms W Q Φ a0 i o)
    (fin : ∀ a w, W ms.length w → a.defers = a0.defers → a.tmps.size = a0.tmps.size → (∀ t, noDst ops t = true → a.tmps.getD t undef = a0.tmps.getD t undef) →
      (∀ i o d, ops[i]? = some o → i < ops.size → o.dst = some d → Φ i (a.tmps.getD d undef) w) → Q .normal a w) : (Code.region id ops true).wp P Q a0 w0 := by
  refine wp_region_any hm (wpAny_inv hok (PhInv ops ms W Φ a0) (fun _ _ _ h => h.size) ?_ ?_ ops.size _ a0 _ ?_ ?_)
  · intro l a w i o hJ hil ho hie
    have hi' : i < ops.size := (Array.getElem?_eq_some_iff.1 ho).1
    have hil' : l.getD i false = false := by rw [← getD_true_false (by have := hJ.size; omega)]; exact hil
    obtain ⟨p, hp, hpl, hW⟩ := hJ.phase
    obtain ⟨hw, hwp⟩ := step i o ho p a w hW (fun q m hq hor => by
      rcases Nat.lt_or_ge q p with h | h
      · exfalso
        have h1 := (hpl q m hq).2 h
        rcases hor with rfl | hwt
        · rw [h1] at hil'; cases hil'
        · obtain ⟨om, hom⟩ : ∃ o, ops[m]? = some o := ⟨ops[m]'(hms m (List.mem_of_getElem? hq)), Array.getElem?_eq_getElem _⟩
          have := waits_listed hJ.closed i ops.size m om hom (hJ.closed m om hom h1) hwt
          rw [this] at hil'; cases hil'
      · exact h) (fun q m hq hwt => (hpl q m hq).1 (waits_listed hJ.closed m ops.size i o ho hie hwt)) hJ.defers hJ.tmps hJ.outer
      (fun j oj d hwt hoj hd => by obtain ⟨e, he, hej, hb⟩ := waitsFor_spec hwt; exact hJ.facts j oj d hoj (hej ▸ hie e he hb) hd)
    unfold wpOp
    simp only [ho, hw, if_true]
    refine Or.inl (Oper.wp_mono ?_ hwp)
    rintro a' w' ⟨v, rfl, hW', hv, hk⟩
    exact hJ.put hok hph ho hil' hie hp hpl hW' hv hk
  · intro a w hJ
    obtain ⟨p, hp, hpl, hW⟩ := hJ.phase
    have hall : ∀ i, i < ops.size → (Array.replicate ops.size true).getD i false = true := fun i hi => by simp [Array.getD_eq_getD_getElem?, hi]
    have hpe : p = ms.length := by
      apply Decidable.byContradiction
      intro hne
      have hlt : p < ms.length := by omega
      have h1 := List.getElem?_eq_getElem hlt
      have := (hpl p _ h1).1 (hall _ (hms _ (List.getElem_mem hlt)))
      omega
    subst hpe
    exact fin a w hW hJ.defers hJ.tmps hJ.outer (fun i o d ho hi hd => hJ.facts i o d ho (hall i hi) hd)
  · refine ⟨by simp, ?_, ⟨0, Nat.zero_le _, fun q m hq => ?_, start⟩, rfl, rfl, fun _ _ => rfl, ?_⟩
    · intro i o ho hl
      have hi := (Array.getElem?_eq_some_iff.1 ho).1
      simp [Array.getD_eq_getD_getElem?, hi] at hl
    · have hi := hms m (List.mem_of_getElem? hq)
      simp [Array.getD_eq_getD_getElem?, hi]
    · intro i o d ho hl _
      have hi := (Array.getElem?_eq_some_iff.1 ho).1
      simp [Array.getD_eq_getD_getElem?, hi] at hl
  · exact Nat.le_trans (List.length_filter_le _ _) (by simp)
def StepsP (P : Program) (ops : Array Oper) (ms : List Nat) (W : Nat → World → Prop) (Q : Exit → Act → World → Prop) (Φ : Facts) (a0 : Act) : Nat → List Oper → Prop
  | _, [] => True
  | i, o :: r => StepP P ops ms W Q Φ a0 i o ∧ StepsP P ops ms W Q Φ a0 (i + 1) r
theorem stepsP_get {P : Program} {ops : Array Oper} {ms : List Nat} {W : Nat → World → Prop} {Q : Exit → Act → World → Prop} {Φ : Facts} {a0 : Act} : ∀ {l : List Oper} {k : Nat}, StepsP P ops ms W Q Φ a0 k l → ∀ i o, l[i]? = some o → StepP P ops ms W Q Φ a0 (k + i) o
  | [], _, _, i, o, h => by simp at h
  | x :: r, k, hs, i, o, h => by
    cases i with
    | zero => simp at h; subst h; exact hs.1
    | succ i =>
      have := stepsP_get hs.2 i o (by simpa using h)
      rwa [show k + 1 + i = k + (i + 1) by omega] at this
theorem steps_P {P : Program} {ops : Array Oper} {ms : List Nat} {W : Nat → World → Prop} {Q : Exit → Act → World → Prop} {Φ : Facts} {a0 : Act} (H : StepsP P ops ms W Q Φ a0 0 ops.toList) : ∀ i o, ops[i]? = some o → StepP P ops ms W Q Φ a0 i o := by
  intro i o ho
  have := stepsP_get H i o (by simpa using ho)
  rwa [Nat.zero_add] at this
end Go.Proofs.YtcoieohbmkjpoaaGreatDoor
namespace Go.Proofs.YtcoieohbmkjpoaaGreatDoor
open Go.RowKit

mutual
/-- The world holds the term in the four cells; all that it leads to lies in blocks of S. -/
def TmS (S : Nat → Prop) (w : World) (c0 c1 c2 c3 : Value) : Tm → Prop
  | .mk k n s args => c0 = .int .u8 k ∧ (0 ≤ k ∧ k ≤ 255) ∧ c1 = .int .i64 n ∧ I64 n ∧ c2 = .string s ∧ s.size ≤ maxLen ∧
      ∃ (a : Option Addr) (cap : Nat), c3 = .slice a args.length cap ∧ args.length ≤ maxLen ∧ (args ≠ [] → ∃ b off, a = some ⟨b, off, none⟩ ∧ S b ∧ TmsS S w b off args)
def TmsS (S : Nat → Prop) (w : World) (b off : Nat) : List Tm → Prop
  | [] => True
  | t :: ts => ∃ c0 c1 c2 c3, w.cell? ⟨b, off, none⟩ = some c0 ∧ w.cell? ⟨b, off + 1, none⟩ = some c1 ∧ w.cell? ⟨b, off + 2, none⟩ = some c2 ∧ w.cell? ⟨b, off + 3, none⟩ = some c3 ∧
      TmS S w c0 c1 c2 c3 t ∧ TmsS S w b (off + 4) ts
end
theorem cell_same {w w' : World} {b : Nat} (h : w'.heap[b]? = w.heap[b]?) (o : Nat) : w'.cell? ⟨b, o, none⟩ = w.cell? ⟨b, o, none⟩ := by simp [World.cell?, h]
mutual
theorem TmS.same {S S' : Nat → Prop} {w w' : World} (hS : ∀ b, S b → S' b) (hk : ∀ b, S b → w'.heap[b]? = w.heap[b]?) {c0 c1 c2 c3 : Value} : ∀ {t : Tm}, TmS S w c0 c1 c2 c3 t → TmS S' w' c0 c1 c2 c3 t
  | .mk _ _ _ args, ht => by
    simp only [TmS] at ht ⊢
    obtain ⟨h0, hkk, h1, hn, h2, hs, a, cap, h3, hl, hr⟩ := ht
    refine ⟨h0, hkk, h1, hn, h2, hs, a, cap, h3, hl, fun hne => ?_⟩
    obtain ⟨b, off, ha, hb, hi⟩ := hr hne
    exact ⟨b, off, ha, hS b hb, TmsS.same hS hk hb hi⟩
theorem TmsS.same {S S' : Nat → Prop} {w w' : World} (hS : ∀ b, S b → S' b) (hk : ∀ b, S b → w'.heap[b]? = w.heap[b]?) {b off : Nat} (hb : S b) : ∀ {ts : List Tm}, TmsS S w b off ts → TmsS S' w' b off ts
  | [], _ => by simp only [TmsS]
  | t :: ts, ht => by
    simp only [TmsS] at ht ⊢
    obtain ⟨c0, c1, c2, c3, h0, h1, h2, h3, hi, hr⟩ := ht
    exact ⟨c0, c1, c2, c3, (cell_same (hk b hb) _).trans h0, (cell_same (hk b hb) _).trans h1, (cell_same (hk b hb) _).trans h2, (cell_same (hk b hb) _).trans h3, TmS.same hS hk hi, TmsS.same hS hk hb hr⟩
end
mutual
theorem TmS.toIs {S : Nat → Prop} {B : Nat} {w : World} (hS : ∀ b, S b → b < B) {c0 c1 c2 c3 : Value} : ∀ {t : Tm}, TmS S w c0 c1 c2 c3 t → IsTm B w c0 c1 c2 c3 t
  | .mk _ _ _ args, ht => by
    simp only [TmS, IsTm] at ht ⊢
    obtain ⟨h0, hkk, h1, hn, h2, hs, a, cap, h3, hl, hr⟩ := ht
    refine ⟨h0, hkk, h1, hn, h2, hs, a, cap, h3, hl, fun hne => ?_⟩
    obtain ⟨b, off, ha, hb, hi⟩ := hr hne
    exact ⟨b, off, ha, hS b hb, TmsS.toIs hS hi⟩
theorem TmsS.toIs {S : Nat → Prop} {B : Nat} {w : World} (hS : ∀ b, S b → b < B) {b off : Nat} : ∀ {ts : List Tm}, TmsS S w b off ts → IsTms B w b off ts
  | [], _ => by simp only [IsTms]
  | t :: ts, ht => by
    simp only [TmsS, IsTms] at ht ⊢
    obtain ⟨c0, c1, c2, c3, h0, h1, h2, h3, hi, hr⟩ := ht
    exact ⟨c0, c1, c2, c3, h0, h1, h2, h3, TmS.toIs hS hi, TmsS.toIs hS hr⟩
end
mutual
theorem IsTm.toS {B : Nat} {w : World} {c0 c1 c2 c3 : Value} : ∀ {t : Tm}, IsTm B w c0 c1 c2 c3 t → TmS (fun b => b < B) w c0 c1 c2 c3 t
  | .mk _ _ _ args, ht => by
    simp only [TmS, IsTm] at ht ⊢
    obtain ⟨h0, hkk, h1, hn, h2, hs, a, cap, h3, hl, hr⟩ := ht
    refine ⟨h0, hkk, h1, hn, h2, hs, a, cap, h3, hl, fun hne => ?_⟩
    obtain ⟨b, off, ha, hb, hi⟩ := hr hne
    exact ⟨b, off, ha, hb, IsTms.toS hi⟩
theorem IsTms.toS {B : Nat} {w : World} {b off : Nat} : ∀ {ts : List Tm}, IsTms B w b off ts → TmsS (fun b => b < B) w b off ts
  | [], _ => by simp only [TmsS]
  | t :: ts, ht => by
    simp only [TmsS, IsTms] at ht ⊢
    obtain ⟨c0, c1, c2, c3, h0, h1, h2, h3, hi, hr⟩ := ht
    exact ⟨c0, c1, c2, c3, h0, h1, h2, h3, IsTm.toS hi, IsTms.toS hr⟩
end
/-- A list of cells holds the terms, four cells each. -/
def FlatS (S : Nat → Prop) (w : World) : List Value → List Tm → Prop
  | xs, [] => xs = []
  | xs, t :: ts => ∃ c0 c1 c2 c3 ys, xs = c0 :: c1 :: c2 :: c3 :: ys ∧ TmS S w c0 c1 c2 c3 t ∧ FlatS S w ys ts
theorem FlatS.same {S S' : Nat → Prop} {w w' : World} (hS : ∀ b, S b → S' b) (hk : ∀ b, S b → w'.heap[b]? = w.heap[b]?) : ∀ {ts : List Tm} {xs : List Value}, FlatS S w xs ts → FlatS S' w' xs ts
  | [], _, h => h
  | t :: ts, xs, h => by
    obtain ⟨c0, c1, c2, c3, ys, e, h1, h2⟩ := h
    exact ⟨c0, c1, c2, c3, ys, e, h1.same hS hk, h2.same hS hk⟩
theorem FlatS.snoc {S : Nat → Prop} {w : World} {c0 c1 c2 c3 : Value} {t : Tm} (ht : TmS S w c0 c1 c2 c3 t) : ∀ {ts : List Tm} {xs : List Value}, FlatS S w xs ts → FlatS S w (xs ++ [c0, c1, c2, c3]) (ts ++ [t])
  | [], xs, h => by
    rw [show xs = [] from h]
    exact ⟨c0, c1, c2, c3, [], rfl, ht, rfl⟩
  | u :: ts, xs, h => by
    obtain ⟨d0, d1, d2, d3, ys, e, h1, h2⟩ := h
    subst e
    exact ⟨d0, d1, d2, d3, ys ++ [c0, c1, c2, c3], rfl, h1, FlatS.snoc ht h2⟩
theorem FlatS.toTms {S : Nat → Prop} {w : World} {g : Nat} : ∀ {ts : List Tm} {xs : List Value} {off : Nat}, FlatS S w xs ts → (∀ j u, xs[j]? = some u → w.cell? ⟨g, off + j, none⟩ = some u) → TmsS S w g off ts
  | [], _, _, _, _ => by simp only [TmsS]
  | t :: ts, xs, off, h, hc => by
    obtain ⟨c0, c1, c2, c3, ys, e, h1, h2⟩ := h
    subst e
    simp only [TmsS]
    refine ⟨c0, c1, c2, c3, hc 0 c0 rfl, hc 1 c1 rfl, hc 2 c2 rfl, hc 3 c3 rfl, h1, FlatS.toTms h2 fun j u hu => ?_⟩
    have := hc (j + 4) u (by simpa using hu)
    rwa [show off + (j + 4) = off + 4 + j by omega] at this
/-! slices.Grow of nil: room for n elements. -/
section
variable {P : Program} (w : World)
theorem run_append_make (t u ty e : TypeId) (i : TypeInfo) (z : Value) (q : IntKind) (ht : P.underlying t = some (.slice e)) (hu : P.underlying u = some (.int q)) (hi : P.info? e = some i) (hz : i.zero = some z)
    (n : Nat) (h0 : 0 < n) (hsz : 0 < i.size) (h63 : (n : Int) ≤ 1000000000) (h48 : n * i.bytes ≤ 281474976710656) :
    (Builtin.append_ #[t, u] ty #[.slice none 0 0, .int .i64 n]).run P w =
      .ok (.slice (some ⟨w.heap.size, 0, none⟩) n (grownCap w n 0 e)) (w.drew.alloc (.cells (Builtin.zeroCells z.cells n ++ Builtin.zeroCells z.cells (grownCap w n 0 e - n)) e)) := by
  have hn : n ≠ 0 := by omega
  have h63' : ¬ (9223372036854775807 < (n : Int)) := by omega
  have h48' : ¬ (281474976710656 < Builtin.nextslicecap n 0 * i.bytes) := by rw [nextslicecap_zero h0]; omega
  have hwr : IntKind.i64.wrap (n : Int) = n := IntWalk.i64_in _ (by omega)
  have hneg : ¬ ((n : Int) < 0) := by omega
  have h2 : ¬ (281474976710656 < (n : Int) * (i.bytes : Int)) := by
    rw [← Int.natCast_mul]
    omega
  have hns : n * i.size ≠ 0 := by
    have := Nat.mul_pos h0 hsz; omega
  have hsz' : i.size ≠ 0 := by omega
  simp [Builtin.append_, run_underlying ht, run_underlying hu, sizeOf, typeInfo, zeroValue, hi, hz, hn, h63', h48', hwr, hneg, h2, hns, asInt, asIntOf, Question.forced, run_firstCells_none, newRow, grownCap]
end
end Go.Proofs.YtcoieohbmkjpoaaGreatDoor
namespace Go.Proofs.YtcoieohbmkjpoaaGreatDoor
open Go.RowKit
attribute [local go_sem] Oper.semAt_some

theorem wpList_append_run {P : Program} {w w' : World} {v' sv xv : Value} {ops : Array Oper} {rest : List Oper} {o : Oper} {a : Act} {Q : Exit → Act → World → Prop} (hgd : o.guard = none) (s x : Operand) (t u : TypeId)
    (ho : o.op = .call { callee := .builtin .append, args := #[s, x], argTypes := #[t, u] }) (hs : a.eval s = sv) (hx : a.eval x = xv) (hr : (Builtin.append_ #[t, u] o.type #[sv, xv]).run P w = .ok v' w')
    (h : wpList P ops Q rest (a.put o.dst v') w') : wpList P ops Q (o :: rest) a w := by
  refine wpList_plain hgd fun K hK => ?_
  unfold Oper.wp execOp
  simp only [ho, resolve, invoke, builtin, Sem.run_bind, Sem.run_pure, Result.andThen_ok, List.map_toArray, List.map_cons, List.map_nil, hs, hx, hr]
  exact hK _ _ h
theorem info_parts' {x : Option TypeInfo} {z : Option Value} {s b : Nat} (h : x.map (fun i => (i.zero, i.size, i.bytes)) = some (z, s, b)) : ∃ i, x = some i ∧ i.zero = z ∧ i.size = s ∧ i.bytes = b := by
  cases x with
  | none => cases h
  | some i => simp at h; exact ⟨i, rfl, h.1, h.2.1, h.2.2⟩

set_option maxRecDepth 100000 in
set_option maxHeartbeats 1000000 in
theorem growT_any (n : Nat) (hn : n ≤ 1000000) (w : World) : Calls Tryz.prog 114 #[.slice none 0 0, .int .i64 n] w fun e w' => ∃ v, e = .returned v ∧ w'.ownsRow w.heap.size 46 4 v 0 [] ∧ Below w.heap.size w w' ∧ (v = .slice none 0 0 → n = 0) := by
  by_cases h0 : n = 0
  · subst h0
    go_enter Tryz.func114, Tryz.ntmps114
    go_wp2
    go_returns
    exact ⟨_, rfl, World.ownsRow_nil _ _ _ _, Below.refl _ _, by simp⟩
  · have hpos : 0 < n := by omega
    obtain ⟨i0, info_at, hz0, info_size, info_bytes⟩ := info_parts' (show (Tryz.prog.info? 46).map (fun i => (i.zero, i.size, i.bytes)) = some (some (.agg #[.int .u8 0, .int .i64 0, .string ⟨#[]⟩, .slice none 0 0]), 4, 56) by kernel_rfl)
    have hrun := fun ty => run_append_make (P := Tryz.prog) w 22 3 ty 46 i0 (.agg #[.int .u8 0, .int .i64 0, .string ⟨#[]⟩, .slice none 0 0]) .i64 Tryz.underlying22 Tryz.underlying3 info_at hz0 n hpos (by rw [info_size]; omega) (by omega) (by rw [info_bytes]; omega)
    have i1 : (0 : Int) < (n : Int) := by omega
    have i2 : ¬ ((n : Int) < 0) := by omega
    obtain ⟨W, hW⟩ : ∃ W, w.drew.alloc (.cells (Builtin.zeroCells (Value.cells (.agg #[.int .u8 0, .int .i64 0, .string ⟨#[]⟩, .slice none 0 0])) n ++ Builtin.zeroCells (Value.cells (.agg #[.int .u8 0, .int .i64 0, .string ⟨#[]⟩, .slice none 0 0])) (grownCap w n 0 46 - n)) 46) = W := ⟨_, rfl⟩
    have hb : Below w.heap.size w W := by rw [← hW]; exact (Below.refl _ w).drew.alloc (Nat.le_refl _) _
    have hg : W.heap[w.heap.size]? = some (.cells (Builtin.zeroCells (Value.cells (.agg #[.int .u8 0, .int .i64 0, .string ⟨#[]⟩, .slice none 0 0])) n ++ Builtin.zeroCells (Value.cells (.agg #[.int .u8 0, .int .i64 0, .string ⟨#[]⟩, .slice none 0 0])) (grownCap w n 0 46 - n)) 46 (0, 0)) := by rw [← hW]; exact heap_alloc_new w.drew _
    have hc1 := grownCap_ge w n 0 46
    have hc2 : grownCap w n 0 46 ≤ maxLen := grownCap_le_maxLen w n 0 46 (by unfold maxLen; omega)
    have hz4 : (Value.cells (.agg #[.int .u8 0, .int .i64 0, .string ⟨#[]⟩, .slice none 0 0])).size = 4 := rfl
    have hcs : (Builtin.zeroCells (Value.cells (.agg #[.int .u8 0, .int .i64 0, .string ⟨#[]⟩, .slice none 0 0])) n ++ Builtin.zeroCells (Value.cells (.agg #[.int .u8 0, .int .i64 0, .string ⟨#[]⟩, .slice none 0 0])) (grownCap w n 0 46 - n)).size = grownCap w n 0 46 * 4 := by
      rw [Array.size_append, size_zeroCells, size_zeroCells, hz4, ← Nat.add_mul]
      congr 1; omega
    simp only [hW] at hrun
    clear info_at hz0 info_size info_bytes
    have HR := hrun
    obtain ⟨C, hC⟩ : ∃ C, grownCap w n 0 46 = C := ⟨_, rfl⟩
    rw [hC] at hrun hc1 hc2 hcs hg
    have HB := Lib.hid hb
    have HG := Lib.hid hg
    have HC2 := Lib.hid hc2
    have HCS := Lib.hid hcs
    have hc3 : C ≤ 9223372036854775807 := by unfold maxLen at hc2; omega
    clear HR hW hb hg hc2 hcs hC
    go_enter Tryz.func114, Tryz.ntmps114
    go_wp2_with (at_builtin; refine wpList_append_run rfl _ _ _ _ rfl rfl rfl (hrun _) ?_)
    go_returns
    refine ⟨_, rfl, ⟨rfl, Or.inr ⟨w.heap.size, C, _, rfl, Nat.le_refl _, HG.out, Nat.zero_le _, HC2.out, HCS.out, by simp⟩⟩, HB.out, by simp⟩
set_option maxRecDepth 100000 in
set_option maxHeartbeats 1000000 in
theorem growA_any (n : Nat) (hn : n ≤ 1000000) (w : World) : Calls Tryz.prog 115 #[.slice none 0 0, .int .i64 n] w fun e w' => ∃ v, e = .returned v ∧ w'.ownsRow w.heap.size 24 2 v 0 [] ∧ Below w.heap.size w w' ∧ (v = .slice none 0 0 → n = 0) := by
  by_cases h0 : n = 0
  · subst h0
    go_enter Tryz.func115, Tryz.ntmps115
    go_wp2
    go_returns
    exact ⟨_, rfl, World.ownsRow_nil _ _ _ _, Below.refl _ _, by simp⟩
  · have hpos : 0 < n := by omega
    obtain ⟨i0, info_at, hz0, info_size, info_bytes⟩ := info_parts' (show (Tryz.prog.info? 24).map (fun i => (i.zero, i.size, i.bytes)) = some (some (.agg #[.string ⟨#[]⟩, .slice none 0 0]), 2, 40) by kernel_rfl)
    have hrun := fun ty => run_append_make (P := Tryz.prog) w 26 3 ty 24 i0 (.agg #[.string ⟨#[]⟩, .slice none 0 0]) .i64 Tryz.underlying26 Tryz.underlying3 info_at hz0 n hpos (by rw [info_size]; omega) (by omega) (by rw [info_bytes]; omega)
    have i1 : (0 : Int) < (n : Int) := by omega
    have i2 : ¬ ((n : Int) < 0) := by omega
    obtain ⟨W, hW⟩ : ∃ W, w.drew.alloc (.cells (Builtin.zeroCells (Value.cells (.agg #[.string ⟨#[]⟩, .slice none 0 0])) n ++ Builtin.zeroCells (Value.cells (.agg #[.string ⟨#[]⟩, .slice none 0 0])) (grownCap w n 0 24 - n)) 24) = W := ⟨_, rfl⟩
    have hb : Below w.heap.size w W := by rw [← hW]; exact (Below.refl _ w).drew.alloc (Nat.le_refl _) _
    have hg : W.heap[w.heap.size]? = some (.cells (Builtin.zeroCells (Value.cells (.agg #[.string ⟨#[]⟩, .slice none 0 0])) n ++ Builtin.zeroCells (Value.cells (.agg #[.string ⟨#[]⟩, .slice none 0 0])) (grownCap w n 0 24 - n)) 24 (0, 0)) := by rw [← hW]; exact heap_alloc_new w.drew _
    have hc1 := grownCap_ge w n 0 24
    have hc2 : grownCap w n 0 24 ≤ maxLen := grownCap_le_maxLen w n 0 24 (by unfold maxLen; omega)
    have hz4 : (Value.cells (.agg #[.string ⟨#[]⟩, .slice none 0 0])).size = 2 := rfl
    have hcs : (Builtin.zeroCells (Value.cells (.agg #[.string ⟨#[]⟩, .slice none 0 0])) n ++ Builtin.zeroCells (Value.cells (.agg #[.string ⟨#[]⟩, .slice none 0 0])) (grownCap w n 0 24 - n)).size = grownCap w n 0 24 * 2 := by
      rw [Array.size_append, size_zeroCells, size_zeroCells, hz4, ← Nat.add_mul]
      congr 1; omega
    simp only [hW] at hrun
    clear info_at hz0 info_size info_bytes
    have HR := hrun
    obtain ⟨C, hC⟩ : ∃ C, grownCap w n 0 24 = C := ⟨_, rfl⟩
    rw [hC] at hrun hc1 hc2 hcs hg
    have HB := Lib.hid hb
    have HG := Lib.hid hg
    have HC2 := Lib.hid hc2
    have HCS := Lib.hid hcs
    have hc3 : C ≤ 9223372036854775807 := by unfold maxLen at hc2; omega
    clear HR hW hb hg hc2 hcs hC
    go_enter Tryz.func115, Tryz.ntmps115
    go_wp2_with (at_builtin; refine wpList_append_run rfl _ _ _ _ rfl rfl rfl (hrun _) ?_)
    go_returns
    refine ⟨_, rfl, ⟨rfl, Or.inr ⟨w.heap.size, C, _, rfl, Nat.le_refl _, HG.out, Nat.zero_le _, HC2.out, HCS.out, by simp⟩⟩, HB.out, by simp⟩
set_option maxRecDepth 100000 in
set_option maxHeartbeats 1000000 in
theorem growZ_any (n : Nat) (hn : n ≤ 1000000) (w : World) : Calls Tryz.prog 156 #[.slice none 0 0, .int .i64 n] w fun e w' => ∃ v, e = .returned v ∧ w'.ownsRow w.heap.size 9 1 v 0 [] ∧ Below w.heap.size w w' ∧ (v = .slice none 0 0 → n = 0) := by
  by_cases h0 : n = 0
  · subst h0
    go_enter Tryz.func156, Tryz.ntmps156
    go_wp2
    go_returns
    exact ⟨_, rfl, World.ownsRow_nil _ _ _ _, Below.refl _ _, by simp⟩
  · have hpos : 0 < n := by omega
    obtain ⟨i0, info_at, hz0, info_size, info_bytes⟩ := info_parts' (show (Tryz.prog.info? 9).map (fun i => (i.zero, i.size, i.bytes)) = some (some (.string ⟨#[]⟩), 1, 16) by kernel_rfl)
    have hrun := fun ty => run_append_make (P := Tryz.prog) w 153 3 ty 9 i0 (.string ⟨#[]⟩) .i64 Tryz.underlying153 Tryz.underlying3 info_at hz0 n hpos (by rw [info_size]; omega) (by omega) (by rw [info_bytes]; omega)
    have i1 : (0 : Int) < (n : Int) := by omega
    have i2 : ¬ ((n : Int) < 0) := by omega
    obtain ⟨W, hW⟩ : ∃ W, w.drew.alloc (.cells (Builtin.zeroCells (Value.cells (.string ⟨#[]⟩)) n ++ Builtin.zeroCells (Value.cells (.string ⟨#[]⟩)) (grownCap w n 0 9 - n)) 9) = W := ⟨_, rfl⟩
    have hb : Below w.heap.size w W := by rw [← hW]; exact (Below.refl _ w).drew.alloc (Nat.le_refl _) _
    have hg : W.heap[w.heap.size]? = some (.cells (Builtin.zeroCells (Value.cells (.string ⟨#[]⟩)) n ++ Builtin.zeroCells (Value.cells (.string ⟨#[]⟩)) (grownCap w n 0 9 - n)) 9 (0, 0)) := by rw [← hW]; exact heap_alloc_new w.drew _
    have hc1 := grownCap_ge w n 0 9
    have hc2 : grownCap w n 0 9 ≤ maxLen := grownCap_le_maxLen w n 0 9 (by unfold maxLen; omega)
    have hz4 : (Value.cells (.string ⟨#[]⟩)).size = 1 := rfl
    have hcs : (Builtin.zeroCells (Value.cells (.string ⟨#[]⟩)) n ++ Builtin.zeroCells (Value.cells (.string ⟨#[]⟩)) (grownCap w n 0 9 - n)).size = grownCap w n 0 9 * 1 := by
      rw [Array.size_append, size_zeroCells, size_zeroCells, hz4, ← Nat.add_mul]
      congr 1; omega
    simp only [hW] at hrun
    clear info_at hz0 info_size info_bytes
    have HR := hrun
    obtain ⟨C, hC⟩ : ∃ C, grownCap w n 0 9 = C := ⟨_, rfl⟩
    rw [hC] at hrun hc1 hc2 hcs hg
    have HB := Lib.hid hb
    have HG := Lib.hid hg
    have HC2 := Lib.hid hc2
    have HCS := Lib.hid hcs
    have hc3 : C ≤ 9223372036854775807 := by unfold maxLen at hc2; omega
    clear HR hW hb hg hc2 hcs hC
    go_enter Tryz.func156, Tryz.ntmps156
    go_wp2_with (at_builtin; refine wpList_append_run rfl _ _ _ _ rfl rfl rfl (hrun _) ?_)
    go_returns
    refine ⟨_, rfl, ⟨rfl, Or.inr ⟨w.heap.size, C, _, rfl, Nat.le_refl _, HG.out, Nat.zero_le _, HC2.out, HCS.out, by simp⟩⟩, HB.out, by simp⟩
end Go.Proofs.YtcoieohbmkjpoaaGreatDoor
namespace Go.Proofs.YtcoieohbmkjpoaaGreatDoor
open Go.RowKit
attribute [local go_sem] Oper.semAt_some

theorem own_grown' {w w' : World} {base : Nat} {e : TypeId} {size : Nat} {v : Value} {n : Nat} {xs : List Value} (h : w.ownsRow base e size v n xs) (hb : Below w.heap.size w w') : w'.ownsRow base e size v n xs :=
  h.kept (row := none) ⟨hb.os, hb.tape, hb.output, hb.size, fun k hk _ => hb.block k hk⟩ (by cases v.ownBlock <;> simp)
theorem own_mono {w : World} {base base' : Nat} {e : TypeId} {size : Nat} {v : Value} {n : Nat} {xs : List Value} (hb : base' ≤ base) (h : w.ownsRow base e size v n xs) : w.ownsRow base' e size v n xs := by
  obtain ⟨h1, h2⟩ := h
  refine ⟨h1, ?_⟩
  rcases h2 with h2 | ⟨g, cap, cur, rfl, q1, q2⟩
  · exact Or.inl h2
  · exact Or.inr ⟨g, cap, cur, rfl, Nat.le_trans hb q1, q2⟩
theorem own_block {w : World} {base : Nat} {t : TypeId} {size : Nat} {v : Value} {n : Nat} {xs : List Value} (h : w.ownsRow base t size v n xs) : ∀ g, v.ownBlock = some g → base ≤ g ∧ g < w.heap.size := by
  intro g hg
  obtain ⟨_, h2⟩ := h
  rcases h2 with ⟨rfl, _⟩ | ⟨g', cap, cur, rfl, q1, q2, q3⟩
  · cases hg
  · cases hg
    exact ⟨q1, (Array.getElem?_eq_some_iff.1 q2).1⟩
theorem own_slice {w : World} {base : Nat} {t : TypeId} {size : Nat} {v : Value} {n : Nat} {xs : List Value} (h : w.ownsRow base t size v n xs) : ∃ a c, v = .slice a n c := by
  obtain ⟨_, h2⟩ := h
  rcases h2 with ⟨rfl, rfl⟩ | ⟨g', cap, cur, rfl, _⟩
  · exact ⟨_, _, rfl⟩
  · exact ⟨_, _, rfl⟩
theorem TmS.one {S : Nat → Prop} {w : World} {c0 c1 c2 c3 : Value} {t : Tm} (h : TmS S w c0 c1 c2 c3 t) : ∀ u ∈ [c0, c1, c2, c3], u.oneCell' = true := by
  obtain ⟨k, n, s, us⟩ := t
  simp only [TmS] at h
  obtain ⟨rfl, _, rfl, _, rfl, _, a, cap, rfl, _, _⟩ := h
  intro u hu
  simp only [List.mem_cons, List.not_mem_nil, or_false] at hu
  rcases hu with rfl | rfl | rfl | rfl <;> rfl
theorem IsTm.cells4 {B : Nat} {w : World} {c0 c1 c2 c3 : Value} {t : Tm} (h : IsTm B w c0 c1 c2 c3 t) : ∃ k n s a l cap, c0 = .int .u8 k ∧ c1 = .int .i64 n ∧ c2 = .string s ∧ c3 = .slice a l cap := by
  obtain ⟨k, n, s, us⟩ := t
  simp only [IsTm] at h
  obtain ⟨rfl, _, rfl, _, rfl, _, a, cap, rfl, _, _⟩ := h
  exact ⟨_, _, _, _, _, _, rfl, rfl, rfl, rfl⟩
theorem TmS.cells4 {S : Nat → Prop} {w : World} {c0 c1 c2 c3 : Value} {t : Tm} (h : TmS S w c0 c1 c2 c3 t) : ∃ k n s a l cap, c0 = .int .u8 k ∧ c1 = .int .i64 n ∧ c2 = .string s ∧ c3 = .slice a l cap := by
  obtain ⟨k, n, s, us⟩ := t
  simp only [TmS] at h
  obtain ⟨rfl, _, rfl, _, rfl, _, a, cap, rfl, _, _⟩ := h
  exact ⟨_, _, _, _, _, _, rfl, rfl, rfl, rfl⟩
/-- The new blocks between two worlds. -/
def NewS (w w' : World) (b : Nat) : Prop := w.heap.size ≤ b ∧ b < w'.heap.size
/-- Copying a term gives the term in new memory. -/
def ClAt (t : Tm) : Prop := ∀ (w : World) (c0 c1 c2 c3 : Value), IsTm w.heap.size w c0 c1 c2 c3 t → t.count ≤ 1000000 →
  Calls Tryz.prog 88 #[.agg #[c0, c1, c2, c3]] w fun e w' => ∃ k n s a l cap, e = .returned (.agg #[.int .u8 k, .int .i64 n, .string s, .slice a l cap]) ∧ Below w.heap.size w w' ∧ TmS (NewS w w') w' (.int .u8 k) (.int .i64 n) (.string s) (.slice a l cap) t
/-- A row of copies. -/
def RowCl (w w' : World) (v : Value) (ts : List Tm) : Prop := ∃ xs S, w'.ownsRow w.heap.size 46 4 v ts.length xs ∧ FlatS S w' xs ts ∧ ∀ b, S b → w.heap.size ≤ b ∧ b < w'.heap.size ∧ v.ownBlock ≠ some b
theorem RowCl.grow {w w1 w2 : World} {v : Value} {ts : List Tm} (h : RowCl w w1 v ts) (hb : Below w1.heap.size w1 w2) : RowCl w w2 v ts := by
  obtain ⟨xs, S, h1, h2, h3⟩ := h
  exact ⟨xs, S, own_grown' h1 hb, h2.same (fun _ h => h) (fun b hS => hb.block b (h3 b hS).2.1), fun b hS => ⟨(h3 b hS).1, Nat.lt_of_lt_of_le (h3 b hS).2.1 hb.size, (h3 b hS).2.2⟩⟩
theorem RowCl.app {w w1 w2 : World} {v v' : Value} {ts : List Tm} {t : Tm} {c0 c1 c2 c3 : Value} {xs : List Value} {S : Nat → Prop} (h2 : FlatS S w1 xs ts) (h3 : ∀ b, S b → w.heap.size ≤ b ∧ b < w1.heap.size ∧ v.ownBlock ≠ some b)
    (ht : TmS S w1 c0 c1 c2 c3 t) (hown : w2.ownsRow w.heap.size 46 4 v' (ts.length + 1) (xs ++ [c0, c1, c2, c3])) (hg : w1.grownBy w2 v.ownBlock) (hat : v'.ownBlock = v.ownBlock ∨ v'.ownBlock = some w1.heap.size) : RowCl w w2 v' (ts ++ [t]) := by
  have hk : ∀ b, S b → w2.heap[b]? = w1.heap[b]? := fun b hS => hg.block b (h3 b hS).2.1 (fun e => (h3 b hS).2.2 e.symm)
  refine ⟨xs ++ [c0, c1, c2, c3], S, by simpa using hown, (h2.same (fun _ h => h) hk).snoc (ht.same (fun _ h => h) hk), fun b hS => ⟨(h3 b hS).1, Nat.lt_of_lt_of_le (h3 b hS).2.1 hg.size, ?_⟩⟩
  rcases hat with e | e
  · rw [e]; exact (h3 b hS).2.2
  · rw [e]; intro e2; cases e2; have := (h3 _ hS).2.1; omega
theorem len_countL' : ∀ us : List Tm, us.length ≤ Tm.countL us
  | [] => Nat.zero_le _
  | t :: us => by
    have := len_countL' us
    have h1 : 1 ≤ t.count := by cases t; simp only [Tm.count]; omega
    simp only [Tm.countL, List.length_cons]
    omega
theorem count_mem' : ∀ {us : List Tm} {t : Tm}, t ∈ us → t.count ≤ Tm.countL us
  | a :: us, t, h => by
    simp only [Tm.countL]
    rcases List.mem_cons.1 h with rfl | h
    · omega
    · have := count_mem' h; omega
set_option maxRecDepth 100000 in
set_option maxHeartbeats 2000000 in
theorem collectT_any (ts : List Tm) (ih : ∀ t ∈ ts, ClAt t) (a : Option Addr) (cap : Nat) (w : World) (hts : ts ≠ [] → ∃ b off, a = some ⟨b, off, none⟩ ∧ b < w.heap.size ∧ IsTms w.heap.size w b off ts) (hl : Tm.countL ts ≤ 1000000) :
    Calls Tryz.prog 87 #[.slice a ts.length cap, .func (.func 88) #[] #[]] w fun e w' => ∃ v, e = .returned v ∧ RowCl w w' v ts ∧ Below w.heap.size w w' := by
  have hlen : ts.length ≤ 1000000 := Nat.le_trans (len_countL' ts) hl
  have HG := Lib.hid (growT_any ts.length hlen w)
  have HT := Lib.hid hts
  have HIH := Lib.hid ih
  have HL := Lib.hid hl
  clear hts ih hl
  go_enter Tryz.func87, Tryz.ntmps87
  go_wp2_with (go_at_call 114; refine HG.out.mono ?_; rintro e w1 ⟨v1, rfl, ho1, hb1, _⟩)
  have hR1 : RowCl w w1 v1 [] := ⟨[], fun _ => False, ho1, rfl, fun _ h => h.elim⟩
  have HR1 := Lib.hid hR1
  have HB1 := Lib.hid hb1
  clear ho1 hb1 hR1 HG
  go_loopw [5, 13] (fun v i wr => ∃ j : Nat, j ≤ ts.length ∧ i = .int .i64 j ∧ RowCl w wr v (ts.take j) ∧ Below w.heap.size w wr) (fun _ i _ => ts.length - (intOf i).toNat)
  case atStart => exact ⟨0, by omega, by go_num, by simpa using HR1.out, HB1.out⟩
  case round =>
    obtain ⟨j, hj, rfl, hr, hbr⟩ := hrel
    obtain ⟨xs, S, ho, hf, hS⟩ := hr
    obtain ⟨va, vc, rfl⟩ := own_slice ho
    have hjl : (ts.take j).length = j := by rw [List.length_take]; omega
    rw [hjl] at ho
    simp only [hjl] at hS
    have HO := Lib.hid ho
    have HF := Lib.hid hf
    have HS := Lib.hid hS
    have HBR := Lib.hid hbr
    have i1 : (0 : Int) ≤ (j : Int) := by omega
    rw [hjl]
    clear ho hf hS hbr
    by_cases hlt : j < ts.length
    · obtain ⟨b, off, rfl, hbw, hI⟩ := HT.out (by intro e; rw [e] at hlt; simp at hlt)
      have hI2 := hI.below HBR.out hbw
      obtain ⟨c0, c1, c2, c3, y0, y1, y2, y3, hc⟩ := hI2.at j hlt
      have hcw := hc.mono HBR.out.size
      have hcall := HIH.out ts[j] (List.getElem_mem hlt)
      have hcnt : (ts[j]).count ≤ 1000000 := Nat.le_trans (count_mem' (List.getElem_mem hlt)) HL.out
      have htk := List.take_succ_eq_append_getElem hlt
      obtain ⟨t, ht⟩ : ∃ t, ts[j] = t := ⟨_, rfl⟩
      rw [ht] at hcw hcall hcnt htk
      have HTK := Lib.hid htk
      obtain ⟨k, n, s, ua, ul, uc, rfl, rfl, rfl, rfl⟩ := hcw.cells4
      have i2 : (j : Int) < (ts.length : Int) := by omega
      have hbA : Below wr.heap.size wr (wr.alloc (.cells #[.int .u8 k, .int .i64 n, .string s, .slice ua ul uc] 46)) := (Below.refl _ _).alloc (Nat.le_refl _) _
      have HC := Lib.hid (hcall (wr.alloc (.cells #[.int .u8 k, .int .i64 n, .string s, .slice ua ul uc] 46)) _ _ _ _ ((hcw.below hbA).mono hbA.size) hcnt)
      have HBA := Lib.hid hbA
      clear hI hI2 hc hcw hcall hcnt ht htk hbA
      go_wp2_with fail
      refine HC.out.mono ?_
      rintro e w2 ⟨k2, n2, s2, a2, l2, p2, rfl, hb2, hT2⟩
      have hb3 : Below wr.heap.size wr w2 := HBA.out.trans (hb2.mono (by simp))
      have hone := hT2.one
      have HB3 := Lib.hid hb3
      have HT2 := Lib.hid hT2
      have HONE := Lib.hid hone
      have HO3 := Lib.hid (own_grown' HO.out hb3)
      have HZ := Lib.hid (show wr.heap.size < w2.heap.size by have := hb2.size; simp at this; omega)
      obtain ⟨i0, hi, hz0, hz1, hz2⟩ := info_parts' (show (Tryz.prog.info? 46).map (fun i => (i.zero, i.size, i.bytes)) = some (some (.agg #[.int .u8 0, .int .i64 0, .string ⟨#[]⟩, .slice none 0 0]), 4, 56) by kernel_rfl)
      clear hb2 hT2 hb3 hone y0 y1 y2 y3 HC
      go_wp2_with (at_builtin; refine wpList_append_own_at _ rfl _ _ 22 rfl w.heap.size 46 i0 _ 4 56 Tryz.underlying22 hi hz0 hz1 hz2 rfl (by decide) (.slice va j vc) j xs rfl ?c0 _ 1 1 [.int .u8 k2, .int .i64 n2, .string s2, .slice a2 l2 p2] rfl rfl ?c1 ?c2 ?c3 ?c4 ?c5 ?_)
      case c0 => exact own_grown' HO3.out ((Below.refl _ _).alloc (Nat.le_refl _) _)
      case c1 =>
        intro jj u' hu'
        have hn := World.alloc_heap_new w2 (.cells #[.int .u8 k2, .int .i64 n2, .string s2, .slice a2 l2 p2] 46)
        rcases jj with _ | _ | _ | _ | jj
        · cases hu'; exact cells_at hn 0 _ rfl
        · cases hu'; exact cells_at hn 1 _ rfl
        · cases hu'; exact cells_at hn 2 _ rfl
        · cases hu'; exact cells_at hn 3 _ rfl
        · simp at hu'
      case c2 => exact HONE.out
      case c3 => unfold maxLen; omega
      case c4 => omega
      case c5 => have := HBR.out.size; have := HB3.out.size; simp; omega
      intro v' w' hown' hgrow _ hat
      have hbN : Below w2.heap.size w2 (w2.alloc (.cells #[.int .u8 k2, .int .i64 n2, .string s2, .slice a2 l2 p2] 46)) := (Below.refl _ _).alloc (Nat.le_refl _) _
      have hbW : Below wr.heap.size wr (w2.alloc (.cells #[.int .u8 k2, .int .i64 n2, .string s2, .slice a2 l2 p2] 46)) := HB3.out.trans (hbN.mono HB3.out.size)
      have hzz := HZ.out
      have hobl := own_block HO.out
      have hR' : RowCl w w' v' (ts.take (j + 1)) := by
        rw [HTK.out]
        refine RowCl.app (S := fun b => S b ∨ NewS (wr.alloc (.cells #[.int .u8 k, .int .i64 n, .string s, .slice ua ul uc] 46)) w2 b) (HF.out.same (fun _ h => Or.inl h) (fun b hb => hbW.block b (HS.out b hb).2.1)) ?_ (HT2.out.same (fun _ h => Or.inr h) (fun b hb => hbN.block b hb.2)) ?_ hgrow (by simpa using hat)
        · intro b hb
          have hsz : w2.heap.size ≤ (w2.alloc (.cells #[.int .u8 k2, .int .i64 n2, .string s2, .slice a2 l2 p2] 46)).heap.size := hbN.size
          have hB := HBR.out.size
          rcases hb with hb | ⟨h1, h2⟩
          · exact ⟨(HS.out b hb).1, by have := (HS.out b hb).2.1; omega, (HS.out b hb).2.2⟩
          · simp only [World.size_alloc] at h1
            refine ⟨by omega, by omega, fun e => ?_⟩
            have := (hobl b e).2
            omega
        · rw [show (ts.take j).length = j by rw [List.length_take]; omega]; exact hown'
      have hB' : Below w.heap.size w w' := (HBR.out.trans (hbW.mono HBR.out.size)).grown hgrow (by have := HBR.out.size; have := hbW.size; omega) (fun k e => (hobl k e).1)
      have HR2 := Lib.hid hR'
      have HB2 := Lib.hid hB'
      clear hR' hB' hown' hgrow hat hbN hbW hzz hobl
      go_wp2
      go_roundw
      case rel => exact ⟨j + 1, by omega, by go_num, HR2.out, HB2.out⟩
      case measure => simp [intOf]; omega
    · have i2 : ¬ (j : Int) < (ts.length : Int) := by omega
      have hje : j = ts.length := by omega
      have hR : RowCl w wr (.slice va j vc) ts := ⟨xs, S, by rw [← hje]; exact HO.out, by have := HF.out; rwa [hje, List.take_of_length_le (Nat.le_refl _)] at this, HS.out⟩
      have HR := Lib.hid hR
      clear hR
      go_wp2
      go_ret
      exact ⟨_, rfl, by have := HR.out; rw [hje] at this; exact this, HBR.out⟩
/-- A row of copies as a term's arguments. -/
theorem RowCl.args {w w' : World} {v : Value} {ts : List Tm} (h : RowCl w w' v ts) (_ : ts.length ≤ maxLen) : ∃ a cap, v = .slice a ts.length cap ∧ (ts ≠ [] → ∃ b off, a = some ⟨b, off, none⟩ ∧ NewS w w' b ∧ TmsS (NewS w w') w' b off ts) := by
  obtain ⟨xs, S, ho, hf, hS⟩ := h
  have ho0 := ho
  rcases ho.2 with ⟨rfl, h0⟩ | ⟨g, cap, cur, rfl, hb, hg, _⟩
  · exact ⟨none, 0, by rw [h0], fun hne => absurd (List.length_eq_zero_iff.1 h0) hne⟩
  · refine ⟨_, cap, rfl, fun _ => ⟨g, 0, rfl, ⟨hb, (Array.getElem?_eq_some_iff.1 hg).1⟩, ?_⟩⟩
    refine FlatS.toTms (hf.same (fun b h => ⟨(hS b h).1, (hS b h).2.1⟩) (fun _ _ => rfl)) fun j u hu => ?_
    have := ho0.cells (g := g) rfl j u hu
    rwa [Addr.add_lit] at this
set_option maxRecDepth 100000 in
set_option maxHeartbeats 2000000 in
theorem clone_any : ∀ t : Tm, ClAt t := by
  refine Tm.ind fun kk nn ss us ih => ?_
  intro w c0 c1 c2 c3 ht hcnt
  have ht0 := ht
  simp only [IsTm] at ht
  obtain ⟨rfl, hk, rfl, hn, rfl, hs, a, cap, rfl, hl, hr⟩ := ht
  have hcl : Tm.countL us ≤ 1000000 := by simp only [Tm.count] at hcnt; omega
  obtain ⟨W0, hW0⟩ : ∃ W0, (w.alloc (.cells #[.int .u8 kk, .int .i64 nn, .string ss, .slice a us.length cap] 46)).alloc (.cells #[.int .u8 0, .int .i64 0, .string ⟨#[]⟩, .slice none 0 0] 46) = W0 := ⟨_, rfl⟩
  have hB : Below w.heap.size w W0 := by rw [← hW0]; exact ((Below.refl _ w).alloc (Nat.le_refl _) _).alloc (by simp) _
  have hsz : W0.heap.size = w.heap.size + 2 := by rw [← hW0]; simp
  have hR0 : W0.heap[w.heap.size]? = some (.cells #[.int .u8 kk, .int .i64 nn, .string ss, .slice a us.length cap] 46 (0, 0)) := by
    rw [← hW0]; exact (Below.heap_alloc _ _ _ (by simp)).trans (World.alloc_heap_new _ _)
  have hR1 : W0.heap[w.heap.size + 1]? = some (.cells #[.int .u8 0, .int .i64 0, .string ⟨#[]⟩, .slice none 0 0] 46 (0, 0)) := by
    rw [← hW0]; have := World.alloc_heap_new (w.alloc (.cells #[.int .u8 kk, .int .i64 nn, .string ss, .slice a us.length cap] 46)) (.cells #[.int .u8 0, .int .i64 0, .string ⟨#[]⟩, .slice none 0 0] 46); rwa [World.size_alloc] at this
  have hcall := collectT_any us ih a cap W0 (fun hne => by
    obtain ⟨b, off, ha, hb, hi⟩ := hr hne
    exact ⟨b, off, ha, by omega, (hi.below hB hb).mono hB.size⟩) hcl
  have x3 := cells_at hR0 3 _ rfl
  have HC := Lib.hid hcall
  have HB := Lib.hid hB
  have HSZ := Lib.hid hsz
  have HR0 := Lib.hid hR0
  have HR1 := Lib.hid hR1
  clear hcall hB hsz hR0 hR1 hr ih ht0 hcl hcnt
  go_enter Tryz.func88, Tryz.ntmps88
  go_wp2_with (go_at_call 87; refine HC.out.mono ?_; clear HC x3)
  rintro e w1 ⟨v, rfl, hrow, hb1⟩
  obtain ⟨a2, cap2, rfl, hargs⟩ := hrow.args hl
  have hsz1 := hb1.size
  have hsz0 := HSZ.out
  have q0 := (hb1.block w.heap.size (by omega)).trans HR0.out
  have q1 := (hb1.block (w.heap.size + 1) (by omega)).trans HR1.out
  have x0 := cells_at q0 0 _ rfl
  have x1 := cells_at q0 1 _ rfl
  have x2 := cells_at q0 2 _ rfl
  have x3 := cells_at q0 3 _ rfl
  have p3 := frozen_of_row w1 w.heap.size 3 _ _ q0
  have r0 := cells_at q1 0 _ rfl
  have r1 := cells_at q1 1 _ rfl
  have r2 := cells_at q1 2 _ rfl
  have r3 := cells_at q1 3 _ rfl
  have f0 := frozen_of_row w1 (w.heap.size + 1) 0 _ _ q1
  have f1 := frozen_of_row w1 (w.heap.size + 1) 1 _ _ q1
  have f2 := frozen_of_row w1 (w.heap.size + 1) 2 _ _ q1
  have f3 := frozen_of_row w1 (w.heap.size + 1) 3 _ _ q1
  have HA := Lib.hid hargs
  have HB1 := Lib.hid (HB.out.trans (hb1.mono HB.out.size))
  have HZ := Lib.hid (show w.heap.size + 2 ≤ w1.heap.size by omega)
  have HB2 := Lib.hid hb1
  clear hargs hrow hb1 hsz1 hsz0 q0 q1
  go_wp2
  obtain ⟨W, hW⟩ : ∃ W, (((((w1.setCell ⟨w.heap.size, 3, none⟩ (.slice a2 us.length cap2)).setCell ⟨w.heap.size + 1, 0, none⟩ (.int .u8 kk)).setCell ⟨w.heap.size + 1, 1, none⟩ (.int .i64 nn)).setCell ⟨w.heap.size + 1, 2, none⟩ (.string ss)).setCell ⟨w.heap.size + 1, 3, none⟩ (.slice a2 us.length cap2)) = W := ⟨_, rfl⟩
  have hres : ∀ b, W0.heap.size ≤ b → W.heap[b]? = w1.heap[b]? := by
    intro b hb
    have h1 := HSZ.out
    rw [← hW, heap_setCell_other _ _ _ _ (by simp; omega), heap_setCell_other _ _ _ _ (by simp; omega), heap_setCell_other _ _ _ _ (by simp; omega), heap_setCell_other _ _ _ _ (by simp; omega), heap_setCell_other _ _ _ _ (by simp; omega)]
  have hBW : Below w.heap.size w W := by
    rw [← hW]
    exact ((((HB1.out.setCell (p := ⟨w.heap.size, 3, none⟩) (by simp) _).setCell (p := ⟨w.heap.size + 1, 0, none⟩) (by simp) _).setCell (p := ⟨w.heap.size + 1, 1, none⟩) (by simp) _).setCell (p := ⟨w.heap.size + 1, 2, none⟩) (by simp) _).setCell (p := ⟨w.heap.size + 1, 3, none⟩) (by simp) _
  have hWs : W.heap.size = w1.heap.size := by rw [← hW]; simp
  refine bodyPost_ret (v := .agg #[.int .u8 kk, .int .i64 nn, .string ss, .slice a2 us.length cap2]) (by simp [results, Tryz.f88, go_sem, r0, r1, r2, r3]) rfl ?_
  rw [hW]
  refine ⟨kk, nn, ss, a2, us.length, cap2, rfl, hBW, ?_⟩
  simp only [TmS]
  refine ⟨trivial, hk, trivial, hn, trivial, hs, a2, cap2, rfl, hl, fun hne => ?_⟩
  obtain ⟨b, off, ha, hb, hT⟩ := HA.out hne
  have hz := HSZ.out
  exact ⟨b, off, ha, ⟨by have := hb.1; omega, by have := hb.2; omega⟩, hT.same (fun b h => ⟨by have := h.1; omega, by have := h.2; omega⟩) (fun b h => hres b h.1) hb⟩
end Go.Proofs.YtcoieohbmkjpoaaGreatDoor
