/- Texts that belong together: Terms as plain data, and what it means that memory holds one. Package term: Compare's parts. Package term: Compare and Equal. Package term: Compare's order on terms, as plain mathematics: a sign, antisymmetric, 0 for equal terms alone, transitive. A region that draws its order and whose operations only add to memory: one proof for each operation serves every order. A region that draws its order: a head whose operations only add to memory, in any order; then a tail in its own order. Package term, names: the classes of bytes; all. Package term, names: Symbol and Variable. strings.Builder, as far -/
import Derived.Test.YtcoieohbmkjpoaaGreatDoorProg
import Derived.Test.YtcoieohbmkjpoaaGreatDoorShelf
import Derived.Below
import Derived.Carry
import Derived.Lib.Hide
import Derived.WalkKit
import Derived.WalkSpells
import Derived.WalkLawsBesides
import Derived.Deep.QuietTactic
import Derived.BigQuiet
import Derived.Sort.Walk0
import Derived.Orders
import Derived.RangeFuncBox
import Derived.Deep.RegionWith
import Derived.RegionTactic
import Derived.BigRegion
import Derived.Deep.RegionHeld3
import Derived.Deep.DeepCutAuto
import Derived.WalkSmall
import Derived.RangeFuncNested
import Derived.RangeFuncBound
import Derived.RangeFuncCalls
import Derived.RangeFuncLeaves
import Derived.Shelf.Abstract
import Derived.Shelf.RegionOpen
import Derived.OwnWalkIn
import Derived.TacticsInMore
import Derived.LoopNIn
import Derived.LoopIn
namespace Go.Proofs.YtcoieohbmkjpoaaGreatDoor
open Go.RowKit

/-- A term: kind, number, name, arguments. -/
inductive Tm where
  | mk (k : Int) (n : Int) (s : ByteArray) (args : List Tm)

def Tm.kind : Tm → Int | .mk k _ _ _ => k
def Tm.num : Tm → Int | .mk _ n _ _ => n
def Tm.name : Tm → ByteArray | .mk _ _ s _ => s
def Tm.args : Tm → List Tm | .mk _ _ _ l => l

mutual
theorem Tm.ind {P : Tm → Prop} (h : ∀ k n s args, (∀ t ∈ args, P t) → P (.mk k n s args)) : ∀ t, P t
  | .mk k n s args => h k n s args (Tm.indL h args)
theorem Tm.indL {P : Tm → Prop} (h : ∀ k n s args, (∀ t ∈ args, P t) → P (.mk k n s args)) : ∀ ts : List Tm, ∀ t ∈ ts, P t
  | [] => fun _ ht => by cases ht
  | a :: ts => List.forall_mem_cons.2 ⟨Tm.ind h a, Tm.indL h ts⟩
end

/-- What fits an int. -/
def I64 (n : Int) : Prop := (Lit.int .i64 n).wf = true

mutual
/-- The world holds the term in the four cells; all that it leads to lies below B. -/
def IsTm (B : Nat) (w : World) (c0 c1 c2 c3 : Value) : Tm → Prop
  | .mk k n s args => c0 = .int .u8 k ∧ (0 ≤ k ∧ k ≤ 255) ∧ c1 = .int .i64 n ∧ I64 n ∧ c2 = .string s ∧ s.size ≤ maxLen ∧
      ∃ (a : Option Addr) (cap : Nat), c3 = .slice a args.length cap ∧ args.length ≤ maxLen ∧ (args ≠ [] → ∃ b off, a = some ⟨b, off, none⟩ ∧ b < B ∧ IsTms B w b off args)
/-- The cells from off on hold the terms, four cells each. -/
def IsTms (B : Nat) (w : World) (b off : Nat) : List Tm → Prop
  | [] => True
  | t :: ts => ∃ c0 c1 c2 c3, w.cell? ⟨b, off, none⟩ = some c0 ∧ w.cell? ⟨b, off + 1, none⟩ = some c1 ∧ w.cell? ⟨b, off + 2, none⟩ = some c2 ∧ w.cell? ⟨b, off + 3, none⟩ = some c3 ∧
      IsTm B w c0 c1 c2 c3 t ∧ IsTms B w b (off + 4) ts
end

mutual
theorem IsTm.below {B : Nat} {w w' : World} (h : Below B w w') {c0 c1 c2 c3 : Value} : ∀ {t : Tm}, IsTm B w c0 c1 c2 c3 t → IsTm B w' c0 c1 c2 c3 t
  | .mk _ _ _ args, ht => by
    simp only [IsTm] at ht ⊢
    obtain ⟨h0, hk, h1, hn, h2, hs, a, cap, h3, hl, hr⟩ := ht
    refine ⟨h0, hk, h1, hn, h2, hs, a, cap, h3, hl, fun hne => ?_⟩
    obtain ⟨b, off, ha, hb, hi⟩ := hr hne
    exact ⟨b, off, ha, hb, IsTms.below h hb hi⟩
theorem IsTms.below {B : Nat} {w w' : World} (h : Below B w w') {b off : Nat} (hb : b < B) : ∀ {ts : List Tm}, IsTms B w b off ts → IsTms B w' b off ts
  | [], _ => by simp only [IsTms]
  | t :: ts, ht => by
    simp only [IsTms] at ht ⊢
    obtain ⟨c0, c1, c2, c3, h0, h1, h2, h3, hi, hr⟩ := ht
    exact ⟨c0, c1, c2, c3, (h.cell (p := ⟨b, off, none⟩) hb).trans h0, (h.cell (p := ⟨b, off + 1, none⟩) hb).trans h1, (h.cell (p := ⟨b, off + 2, none⟩) hb).trans h2,
      (h.cell (p := ⟨b, off + 3, none⟩) hb).trans h3, IsTm.below h hi, IsTms.below h hb hr⟩
end

mutual
theorem IsTm.mono {B B' : Nat} (hB : B ≤ B') {w : World} {c0 c1 c2 c3 : Value} : ∀ {t : Tm}, IsTm B w c0 c1 c2 c3 t → IsTm B' w c0 c1 c2 c3 t
  | .mk _ _ _ args, ht => by
    simp only [IsTm] at ht ⊢
    obtain ⟨h0, hk, h1, hn, h2, hs, a, cap, h3, hl, hr⟩ := ht
    refine ⟨h0, hk, h1, hn, h2, hs, a, cap, h3, hl, fun hne => ?_⟩
    obtain ⟨b, off, ha, hb, hi⟩ := hr hne
    exact ⟨b, off, ha, by omega, IsTms.mono hB hi⟩
theorem IsTms.mono {B B' : Nat} (hB : B ≤ B') {w : World} {b off : Nat} : ∀ {ts : List Tm}, IsTms B w b off ts → IsTms B' w b off ts
  | [], _ => by simp only [IsTms]
  | t :: ts, ht => by
    simp only [IsTms] at ht ⊢
    obtain ⟨c0, c1, c2, c3, h0, h1, h2, h3, hi, hr⟩ := ht
    exact ⟨c0, c1, c2, c3, h0, h1, h2, h3, IsTm.mono hB hi, IsTms.mono hB hr⟩
end

/-- One of the terms in a row of cells. -/
theorem IsTms.at {B : Nat} {w : World} {b : Nat} : ∀ {ts : List Tm} {off : Nat}, IsTms B w b off ts → ∀ (i : Nat) (hi : i < ts.length),
    ∃ c0 c1 c2 c3, w.cell? ⟨b, off + i * 4, none⟩ = some c0 ∧ w.cell? ⟨b, off + i * 4 + 1, none⟩ = some c1 ∧ w.cell? ⟨b, off + i * 4 + 2, none⟩ = some c2 ∧ w.cell? ⟨b, off + i * 4 + 3, none⟩ = some c3 ∧
      IsTm B w c0 c1 c2 c3 ts[i]
  | [], _, _, i, hi => absurd hi (by simp)
  | t :: ts, off, ht, i, hi => by
    simp only [IsTms] at ht
    obtain ⟨c0, c1, c2, c3, h0, h1, h2, h3, hc, hr⟩ := ht
    cases i with
    | zero => exact ⟨c0, c1, c2, c3, h0, h1, h2, h3, hc⟩
    | succ i =>
      have e : off + (i + 1) * 4 = off + 4 + i * 4 := by omega
      rw [e]
      exact IsTms.at hr i (by simpa using hi)

theorem cells_at {W : World} {b : Nat} {cs : Array Value} {t : TypeId} {f : Nat × Nat} (h : W.heap[b]? = some (.cells cs t f)) (i : Nat) (v : Value) (hv : cs[i]? = some v) : W.cell? ⟨b, i, none⟩ = some v := by
  simp [World.cell?, h, hv]

mutual
/-- The terms with their nesting levels, each before its arguments. -/
def Tm.nodes (l : Nat) : Tm → List (Tm × Nat)
  | .mk k n s args => (.mk k n s args, l) :: Tm.nodesL (l + 1) args
def Tm.nodesL (l : Nat) : List Tm → List (Tm × Nat)
  | [] => []
  | t :: ts => Tm.nodes l t ++ Tm.nodesL l ts
end

mutual
def Tm.depth : Tm → Nat
  | .mk _ _ _ args => Tm.depthL args + 1
def Tm.depthL : List Tm → Nat
  | [] => 0
  | t :: ts => max (Tm.depth t) (Tm.depthL ts)
end

mutual
def Tm.count : Tm → Nat
  | .mk _ _ _ args => Tm.countL args + 1
def Tm.countL : List Tm → Nat
  | [] => 0
  | t :: ts => Tm.count t + Tm.countL ts
end

theorem Tm.depthL_mem : ∀ {ts : List Tm} {t : Tm}, t ∈ ts → t.depth ≤ Tm.depthL ts
  | a :: ts, t, h => by
    simp only [Tm.depthL]
    rcases List.mem_cons.1 h with rfl | h
    · omega
    · have := Tm.depthL_mem h; omega

mutual
theorem Tm.depth_le_count : ∀ t : Tm, t.depth ≤ t.count
  | .mk _ _ _ args => by
    simp only [Tm.depth, Tm.count]
    have := Tm.depthL_le_countL args; omega
theorem Tm.depthL_le_countL : ∀ ts : List Tm, Tm.depthL ts ≤ Tm.countL ts
  | [] => by simp only [Tm.depthL, Tm.countL]; omega
  | t :: ts => by
    simp only [Tm.depthL, Tm.countL]
    have := Tm.depth_le_count t
    have := Tm.depthL_le_countL ts
    omega
end

theorem Tm.nodesL_append (l : Nat) : ∀ a b : List Tm, Tm.nodesL l (a ++ b) = Tm.nodesL l a ++ Tm.nodesL l b
  | [], b => by simp [Tm.nodesL]
  | t :: a, b => by simp [Tm.nodesL, Tm.nodesL_append l a b]
theorem Tm.nodesL_snoc (l : Nat) (ts : List Tm) (j : Nat) (hj : j < ts.length) : Tm.nodesL l (ts.take (j + 1)) = Tm.nodesL l (ts.take j) ++ Tm.nodes l ts[j] := by
  rw [List.take_succ_eq_append_getElem hj, Tm.nodesL_append]
  simp [Tm.nodesL]
theorem Tm.nodesL_prefix (l : Nat) (ts : List Tm) (j : Nat) (hj : j < ts.length) {q : List (Tm × Nat)} (h : q <+: Tm.nodes l ts[j]) : Tm.nodesL l (ts.take j) ++ q <+: Tm.nodesL l ts := by
  have e : Tm.nodesL l ts = Tm.nodesL l (ts.take (j + 1)) ++ Tm.nodesL l (ts.drop (j + 1)) := by rw [← Tm.nodesL_append, List.take_append_drop]
  rw [e, Tm.nodesL_snoc l ts j hj, List.append_assoc]
  obtain ⟨r, hr⟩ := h
  exact ⟨r ++ Tm.nodesL l (ts.drop (j + 1)), by rw [← hr]; simp⟩

end Go.Proofs.YtcoieohbmkjpoaaGreatDoor
namespace Go.Proofs.YtcoieohbmkjpoaaGreatDoor
open Go.RowKit

def rankI (k : Int) : Int := if k = 4 then 3 else if k = 3 then 4 else if k = 1 ∨ k = 2 ∨ k = 5 ∨ k = 6 then k else 7 + k

set_option maxHeartbeats 1000000 in
theorem rank_any (k : Int) (w : World) (hk : 0 ≤ k ∧ k ≤ 255) :
    Calls Tryz.prog 81 #[.int .u8 k] w fun e w' => e = .returned (.int .i64 (rankI k)) ∧ w = w' := by
  obtain ⟨h0, h1⟩ := hk
  have hcs : k = 1 ∨ k = 2 ∨ k = 3 ∨ k = 4 ∨ k = 5 ∨ k = 6 ∨ (k ≠ 1 ∧ k ≠ 2 ∧ k ≠ 3 ∧ k ≠ 4 ∧ k ≠ 5 ∧ k ≠ 6) := by omega
  rcases hcs with rfl | rfl | rfl | rfl | rfl | rfl | ⟨e1, e2, e3, e4, e5, e6⟩
  case inr.inr.inr.inr.inr.inr =>
    have hr : rankI k = 7 + k := by unfold rankI; rw [if_neg e4, if_neg e3, if_neg (by omega)]
    have HR := Lib.hid hr; clear hr
    have g1 : (k == 1) = false := by simpa using e1
    have g2 : (k == 2) = false := by simpa using e2
    have g3 : (k == 3) = false := by simpa using e3
    have g4 : (k == 4) = false := by simpa using e4
    have g5 : (k == 5) = false := by simpa using e5
    have g6 : (k == 6) = false := by simpa using e6
    clear e1 e2 e3 e4 e5 e6
    go_enter Tryz.func81, Tryz.ntmps81
    go_wp2
    go_ret
    exact ⟨by rw [HR.out]; rfl, rfl⟩
  all_goals
    go_enter Tryz.func81, Tryz.ntmps81
    go_wp2
    go_ret
    exact ⟨rfl, rfl⟩

def strCmp (s t : ByteArray) : Int := if Op.bytesLess s.toList t.toList then -1 else if s.toList == t.toList then 0 else 1

set_option maxHeartbeats 1000000 in
theorem compareString_any (s t : ByteArray) (w : World) :
    Calls Tryz.prog 44 #[.string s, .string t] w fun e w' => e = .returned (.int .i64 (strCmp s t)) ∧ w = w' := by
  have hr : strCmp s t = (if Op.bytesLess s.toList t.toList then -1 else if s.toList == t.toList then 0 else 1) := rfl
  have HR := Lib.hid hr; clear hr
  cases h1 : Op.bytesLess s.toList t.toList <;> cases h2 : s.toList == t.toList
  all_goals
    have H1 := Lib.hid h1
    have H2 := Lib.hid h2
    go_enter Tryz.func44, Tryz.ntmps44
    go_wp2
    go_ret
    exact ⟨by rw [HR.out, H1.out, H2.out]; rfl, rfl⟩

def orI (a b : Int) : Int := if a ≠ 0 then a else b

set_option maxHeartbeats 1000000 in
/-- cmp.Or of two ints that lie in a new block. -/
theorem or_two (b : Nat) (x y : Int) (cap : Nat) (w : World) (h0 : w.cell? ⟨b, 0, none⟩ = some (.int .i64 x)) (h1 : w.cell? ⟨b, 1, none⟩ = some (.int .i64 y)) :
    Calls Tryz.prog 43 #[.slice (some ⟨b, 0, none⟩) 2 cap] w fun e w' => e = .returned (.int .i64 (orI x y)) ∧ w = w' := by
  have hr : orI x y = (if x ≠ 0 then x else y) := rfl
  have HR := Lib.hid hr; clear hr
  go_enter Tryz.func43, Tryz.ntmps43
  go_wp2
  go_loop [5, 8] (fun _ i => ∃ k : Nat, k ≤ 2 ∧ i = .int .i64 k ∧ (1 ≤ k → x = 0) ∧ (2 ≤ k → y = 0)) (fun _ i => 2 - (intOf i).toNat)
  case atStart => exact ⟨0, by omega, rfl, by omega, by omega⟩
  case round =>
    obtain ⟨k, hk, rfl, hx, hy⟩ := hrel
    have hkc : k = 0 ∨ k = 1 ∨ k = 2 := by omega
    have HX := Lib.hid hx; clear hx
    have HY := Lib.hid hy; clear hy
    rcases hkc with rfl | rfl | rfl
    · by_cases hz : x = 0
      · have HZ := Lib.hid hz
        have hz' : (x != 0) = false := by simpa using hz
        clear hz
        go_wp2
        go_round
        case rel => exact ⟨1, by omega, by go_num, fun _ => HZ.out, by omega⟩
        case measure => simp [intOf]
      · have HZ := Lib.hid hz
        have hz' : (x != 0) = true := by simpa using hz
        clear hz
        go_wp2
        go_ret
        exact ⟨by rw [HR.out, if_pos HZ.out]; rfl, rfl⟩
    · by_cases hz : y = 0
      · have HZ := Lib.hid hz
        have hz' : (y != 0) = false := by simpa using hz
        clear hz
        go_wp2
        go_round
        case rel => exact ⟨2, by omega, by go_num, fun _ => HX.out (by omega), fun _ => HZ.out⟩
        case measure => simp [intOf]
      · have HZ := Lib.hid hz
        have hz' : (y != 0) = true := by simpa using hz
        clear hz
        go_wp2
        go_ret
        exact ⟨by rw [HR.out, if_neg (by simpa using HX.out (by omega))]; rfl, rfl⟩
    · go_wp2
      go_ret
      exact ⟨by rw [HR.out, HX.out (by omega), HY.out (by omega)]; rfl, rfl⟩
end Go.Proofs.YtcoieohbmkjpoaaGreatDoor
namespace Go.Proofs.YtcoieohbmkjpoaaGreatDoor
open Go.RowKit

mutual
def Tm.cmp : Tm → Tm → Int
  | .mk k n s us, .mk k' n' s' as' =>
    if Lib.compareInt (rankI k) (rankI k') ≠ 0 then Lib.compareInt (rankI k) (rankI k')
    else if k = 1 ∧ n ≠ n' then Lib.compareInt n n'
    else if orI (Lib.compareInt us.length as'.length) (strCmp s s') ≠ 0 then orI (Lib.compareInt us.length as'.length) (strCmp s s')
    else if Tm.cmpL us as' ≠ 0 then Tm.cmpL us as'
    else Lib.compareInt n n'
def Tm.cmpL : List Tm → List Tm → Int
  | [], [] => 0
  | [], _ :: _ => -1
  | _ :: _, [] => 1
  | a :: us, b :: bs => if Tm.cmp a b ≠ 0 then Tm.cmp a b else Tm.cmpL us bs
end

def CmpAt (B : Nat) (t : Tm) : Prop := ∀ (t' : Tm) (c0 c1 c2 c3 d0 d1 d2 d3 : Value) (W : World), IsTm B W c0 c1 c2 c3 t → IsTm B W d0 d1 d2 d3 t' → B ≤ W.heap.size →
  Calls Tryz.prog 47 #[.agg #[c0, c1, c2, c3], .agg #[d0, d1, d2, d3]] W fun e w' => e = .returned (.int .i64 (Tm.cmp t t')) ∧ Below W.heap.size W w'

set_option maxRecDepth 100000 in
set_option maxHeartbeats 2000000 in
theorem compareFunc_any (B : Nat) (us bs : List Tm) (ih : ∀ t ∈ us, CmpAt B t) (a b : Option Addr) (capa capb : Nat) (w : World) (hw : B ≤ w.heap.size) (hla : us.length ≤ maxLen) (_hlb : bs.length ≤ maxLen)
    (ha : us ≠ [] → ∃ b off, a = some ⟨b, off, none⟩ ∧ b < B ∧ IsTms B w b off us) (hb : bs ≠ [] → ∃ b' off, b = some ⟨b', off, none⟩ ∧ b' < B ∧ IsTms B w b' off bs) :
    Calls Tryz.prog 46 #[.slice a us.length capa, .slice b bs.length capb, .func (.func 47) #[] #[]] w
      fun e w' => e = .returned (.int .i64 (Tm.cmpL us bs)) ∧ Below w.heap.size w w' := by
  unfold maxLen at hla
  have HA := Lib.hid ha; clear ha
  have HB := Lib.hid hb; clear hb
  have IH := Lib.hid ih; clear ih
  go_enter Tryz.func46, Tryz.ntmps46
  go_wp2
  go_loopw [13] (fun i wr => ∃ j : Nat, j ≤ us.length ∧ j ≤ bs.length ∧ i = .int .i64 j ∧ Below w.heap.size w wr ∧ Hid (Tm.cmpL us bs = Tm.cmpL (us.drop j) (bs.drop j))) (fun i _ => us.length - (intOf i).toNat)
  case atStart => exact ⟨0, Nat.zero_le _, Nat.zero_le _, rfl, Below.refl _ _, rfl⟩
  case round =>
    obtain ⟨j, hja, hjb, rfl, hB, HC⟩ := hrel
    by_cases hlt : j < us.length
    · obtain ⟨b1, off, rfl, hb1, hI1⟩ := HA.out (by intro e; rw [e] at hlt; simp at hlt)
      obtain ⟨c0, c1, c2, c3, e0, e1, e2, e3, hc4⟩ := hI1.at j hlt
      have hBB := hB.mono hw
      have g0 := (hBB.cell (p := ⟨b1, off + j * 4, none⟩) hb1).trans e0
      have g1 := (hBB.cell (p := ⟨b1, off + j * 4 + 1, none⟩) hb1).trans e1
      have g2 := (hBB.cell (p := ⟨b1, off + j * 4 + 2, none⟩) hb1).trans e2
      have g3 := (hBB.cell (p := ⟨b1, off + j * 4 + 3, none⟩) hb1).trans e3
      have hd1 := hc4.below hBB
      obtain ⟨k', n', s', as', hq⟩ : ∃ k' n' s' as', us[j] = .mk k' n' s' as' := by cases us[j]; exact ⟨_, _, _, _, rfl⟩
      have HQ := Lib.hid hq
      rw [hq] at hc4
      simp only [IsTm] at hc4
      obtain ⟨rfl, _, rfl, _, rfl, _, a', cap', rfl, _, _⟩ := hc4
      have hda : us.drop j = us[j] :: us.drop (j + 1) := List.drop_eq_getElem_cons hlt
      have HDA := Lib.hid hda; clear hda
      have HD1 := Lib.hid hd1
      clear e0 e1 e2 e3 hq hd1
      by_cases hltb : j < bs.length
      · obtain ⟨b2, off2, rfl, hb2, hI2⟩ := HB.out (by intro e; rw [e] at hltb; simp at hltb)
        obtain ⟨d0, d1, d2, d3, e0, e1, e2, e3, hc4⟩ := hI2.at j hltb
        have k0 := (hBB.cell (p := ⟨b2, off2 + j * 4, none⟩) hb2).trans e0
        have k1 := (hBB.cell (p := ⟨b2, off2 + j * 4 + 1, none⟩) hb2).trans e1
        have k2 := (hBB.cell (p := ⟨b2, off2 + j * 4 + 2, none⟩) hb2).trans e2
        have k3 := (hBB.cell (p := ⟨b2, off2 + j * 4 + 3, none⟩) hb2).trans e3
        have hd2 := hc4.below hBB
        obtain ⟨k'', n'', s'', as'', hq2⟩ : ∃ k' n' s' as', bs[j] = .mk k' n' s' as' := by cases bs[j]; exact ⟨_, _, _, _, rfl⟩
        have HQ2 := Lib.hid hq2
        rw [hq2] at hc4
        simp only [IsTm] at hc4
        obtain ⟨rfl, _, rfl, _, rfl, _, a'', cap'', rfl, _, _⟩ := hc4
        have hdb : bs.drop j = bs[j] :: bs.drop (j + 1) := List.drop_eq_getElem_cons hltb
        have HDB := Lib.hid hdb; clear hdb
        have HD2 := Lib.hid hd2
        clear e0 e1 e2 e3 hq2 hd2
        have hlt1 : b1 < wr.heap.size := by have := hB.size; omega
        have hlt2 : b2 < wr.heap.size := by have := hB.size; omega
        have hBa : Below wr.heap.size wr ((wr.alloc (.cells #[.int .u8 k', .int .i64 n', .string s', .slice a' as'.length cap'] 46)).alloc (.cells #[.int .u8 k'', .int .i64 n'', .string s'', .slice a'' as''.length cap''] 46)) := ((Below.refl _ wr).alloc (Nat.le_refl _) _).alloc (by simp) _
        have hBn : B ≤ wr.heap.size := by have := hB.size; omega
        have hcall := IH.out _ (List.getElem_mem hlt) _ _ _ _ _ _ _ _ _ _ (HD1.out.below (hBa.mono hBn)) (HD2.out.below (hBa.mono hBn)) (by simp; omega)
        have HCALL := Lib.hid hcall
        clear hcall
        have HBA := Lib.hid hBa
        clear hBa
        by_cases hz : Tm.cmp us[j] bs[j] = 0
        · have HZ := Lib.hid hz
          have hz' : (Tm.cmp us[j] bs[j] != 0) = false := by simpa using hz
          clear hz
          go_wp2_with (go_at_call 47; refine HCALL.out.mono ?_; rintro e W3 ⟨rfl, hB3⟩)
          go_roundw
          case rel =>
            refine ⟨j + 1, by omega, by omega, by go_num, hB.trans ((HBA.out.trans (hB3.mono (by simp; omega))).mono hB.size), ?_⟩
            show _ = _
            rw [HC.out, HDA.out, HDB.out]
            simp only [Tm.cmpL]
            rw [if_neg (by simpa using HZ.out)]
          case measure => simp [intOf]; omega
        · have HZ := Lib.hid hz
          have hz' : (Tm.cmp us[j] bs[j] != 0) = true := by simpa using hz
          clear hz
          go_wp2_with (go_at_call 47; refine HCALL.out.mono ?_; rintro e W3 ⟨rfl, hB3⟩)
          go_ret
          refine ⟨?_, hB.trans ((HBA.out.trans (hB3.mono (by simp; omega))).mono hB.size)⟩
          rw [HC.out, HDA.out, HDB.out]
          simp only [Tm.cmpL]
          rw [if_pos HZ.out]; rfl
      · have hdb : bs.drop j = [] := List.drop_eq_nil_of_le (by omega)
        have HDB := Lib.hid hdb; clear hdb
        go_wp2
        go_ret
        refine ⟨?_, hB.alloc (by have := hB.size; omega) _⟩
        rw [HC.out, HDA.out, HDB.out]
        simp only [Tm.cmpL]; rfl
    · have hda : us.drop j = [] := List.drop_eq_nil_of_le (by omega)
      have HDA := Lib.hid hda; clear hda
      by_cases hltb : us.length < bs.length
      · have hdb : bs.drop j = bs[j]'(by omega) :: bs.drop (j + 1) := List.drop_eq_getElem_cons (by omega)
        have HDB := Lib.hid hdb; clear hdb
        go_wp2
        go_ret
        refine ⟨?_, hB⟩
        rw [HC.out, HDA.out, HDB.out]
        simp only [Tm.cmpL]; rfl
      · have hdb : bs.drop j = [] := List.drop_eq_nil_of_le (by omega)
        have HDB := Lib.hid hdb; clear hdb
        go_wp2
        go_ret
        refine ⟨?_, hB⟩
        rw [HC.out, HDA.out, HDB.out]
        simp only [Tm.cmpL]; rfl
end Go.Proofs.YtcoieohbmkjpoaaGreatDoor
namespace Go.Proofs.YtcoieohbmkjpoaaGreatDoor

/-- A sign, its opposite, and how three go together in an order. -/
def Sg (x : Int) : Prop := x = -1 ∨ x = 0 ∨ x = 1
def Tri (x y z : Int) : Prop := x ≤ 0 → y ≤ 0 → z ≤ 0 ∧ (z = 0 ↔ x = 0 ∧ y = 0)
theorem orI_zero {a b : Int} : orI a b = 0 ↔ a = 0 ∧ b = 0 := by unfold orI; by_cases h : a = 0 <;> simp [h]
theorem Sg.or {a b : Int} (ha : Sg a) (hb : Sg b) : Sg (orI a b) := by
  unfold orI
  split
  · exact ha
  · exact hb
theorem orI_neg {a b a' b' : Int} (ha : a' = -a) (hb : a = 0 → b' = -b) : orI a' b' = -orI a b := by
  unfold orI
  by_cases h : a = 0
  · have : a' = 0 := by omega
    simp [h, this, hb h]
  · simp [h, ha]
theorem orI_l {a b : Int} (h : a ≠ 0) : orI a b = a := if_pos h
theorem orI_r {a b : Int} (h : a = 0) : orI a b = b := if_neg (fun e => e h)
theorem Tri.or {a1 a2 a3 b1 b2 b3 : Int} (ha : Tri a1 a2 a3) (hb : a1 = 0 → a2 = 0 → Tri b1 b2 b3) : Tri (orI a1 b1) (orI a2 b2) (orI a3 b3) := by
  intro hx hy
  by_cases h1 : a1 = 0 <;> by_cases h2 : a2 = 0
  · have h3 := (ha (by omega) (by omega)).2.2 ⟨h1, h2⟩
    rw [orI_r h1] at hx ⊢
    rw [orI_r h2] at hy ⊢
    rw [orI_r h3]
    exact hb h1 h2 hx hy
  · rw [orI_l h2] at hy ⊢
    have h := ha (by omega) hy
    have h3 : a3 ≠ 0 := fun e => h2 (h.2.1 e).2
    rw [orI_l h3]
    exact ⟨h.1, ⟨fun e => absurd e h3, fun e => absurd e.2 h2⟩⟩
  · rw [orI_l h1] at hx ⊢
    have h := ha hx (by omega)
    have h3 : a3 ≠ 0 := fun e => h1 (h.2.1 e).1
    rw [orI_l h3]
    exact ⟨h.1, ⟨fun e => absurd e h3, fun e => absurd e.1 h1⟩⟩
  · rw [orI_l h1] at hx ⊢
    rw [orI_l h2] at hy ⊢
    have h := ha hx hy
    have h3 : a3 ≠ 0 := fun e => h1 (h.2.1 e).1
    rw [orI_l h3]
    exact ⟨h.1, ⟨fun e => absurd e h3, fun e => absurd e.1 h1⟩⟩

theorem int_sg (a b : Int) : Sg (Lib.compareInt a b) := by unfold Sg Lib.compareInt; split <;> (try split) <;> omega
theorem int_neg (a b : Int) : Lib.compareInt b a = -Lib.compareInt a b := by unfold Lib.compareInt; split <;> split <;> (try split) <;> (try split) <;> omega
theorem int_zero {a b : Int} : Lib.compareInt a b = 0 ↔ a = b := by unfold Lib.compareInt; split <;> (try split) <;> omega
theorem int_le {a b : Int} : Lib.compareInt a b ≤ 0 ↔ a ≤ b := by unfold Lib.compareInt; split <;> (try split) <;> omega
theorem int_tri (a b c : Int) : Tri (Lib.compareInt a b) (Lib.compareInt b c) (Lib.compareInt a c) := by
  intro h1 h2
  rw [int_le] at *
  rw [int_zero, int_zero, int_zero]
  omega

theorem less_irrefl : ∀ x : List UInt8, Op.bytesLess x x = false
  | [] => rfl
  | a :: x => by simp [Op.bytesLess, less_irrefl x]
/-- Bytes compared, as an order on lists. -/
def byC (x y : List UInt8) : Int := if Op.bytesLess x y then -1 else if x == y then 0 else 1
theorem byC_cons (a b : UInt8) (x y : List UInt8) : byC (a :: x) (b :: y) = orI (Lib.compareInt a.toNat b.toNat) (byC x y) := by
  have hlt : (a < b) ↔ ((a.toNat : Int) < b.toNat) := by rw [UInt8.lt_iff_toNat_lt]; omega
  by_cases h2 : a = b
  · subst h2
    rw [orI_r (int_zero.2 rfl)]
    simp [byC, Op.bytesLess]
  · have h3 : Lib.compareInt a.toNat b.toNat ≠ 0 := fun e => h2 (UInt8.toNat_inj.1 (by have := int_zero.1 e; omega))
    rw [orI_l h3]
    by_cases h1 : a < b
    · have h5 := hlt.1 h1
      unfold byC Lib.compareInt
      rw [if_pos h5]
      simp [Op.bytesLess, h1]
    · have h5 : ¬ ((a.toNat : Int) < b.toNat) := fun h => h1 (hlt.2 h)
      have h6 : (a.toNat : Int) > b.toNat := by
        have h7 : (a.toNat : Int) ≠ b.toNat := fun e => h3 (int_zero.2 e)
        omega
      unfold byC Lib.compareInt
      rw [if_neg h5, if_pos h6]
      simp [Op.bytesLess, h1, h2]
theorem byC_sg : ∀ x y : List UInt8, Sg (byC x y)
  | [], [] => Or.inr (Or.inl rfl)
  | [], _ :: _ => Or.inl rfl
  | _ :: _, [] => Or.inr (Or.inr rfl)
  | a :: x, b :: y => by rw [byC_cons]; exact (int_sg _ _).or (byC_sg x y)
theorem byC_neg : ∀ x y : List UInt8, byC y x = -byC x y
  | [], [] => rfl
  | [], _ :: _ => rfl
  | _ :: _, [] => rfl
  | a :: x, b :: y => by rw [byC_cons, byC_cons]; exact orI_neg (int_neg _ _) (fun _ => byC_neg x y)
theorem byC_zero {x y : List UInt8} : byC x y = 0 ↔ x = y := by
  unfold byC
  by_cases h : x = y
  · subst h; simp [less_irrefl]
  · by_cases h2 : Op.bytesLess x y <;> simp [h, h2]
theorem byC_up (b : UInt8) (y : List UInt8) : byC [] (b :: y) = -1 := rfl
theorem byC_down (b : UInt8) (y : List UInt8) : byC (b :: y) [] = 1 := rfl
theorem byC_tri : ∀ x y z : List UInt8, Tri (byC x y) (byC y z) (byC x z)
  | [], [], z => by intro _ h2; exact ⟨h2, by simp [byC_zero]⟩
  | [], b :: y, [] => by intro _ h2; rw [byC_down] at h2; omega
  | [], b :: y, c :: z => by intro _ _; rw [byC_up, byC_up]; exact ⟨by omega, by omega⟩
  | a :: x, [], _ => by intro h1; rw [byC_down] at h1; omega
  | a :: x, b :: y, [] => by intro _ h2; rw [byC_down] at h2; omega
  | a :: x, b :: y, c :: z => by rw [byC_cons, byC_cons, byC_cons]; exact (int_tri _ _ _).or (fun _ _ => byC_tri x y z)
theorem strCmp_eq (s t : ByteArray) : strCmp s t = byC s.toList t.toList := rfl
theorem str_inj {s t : ByteArray} : s.toList = t.toList ↔ s = t := by
  constructor
  · intro h
    rw [ByteArray.toList_eq, ByteArray.toList_eq] at h
    cases s; cases t
    simp only at h
    congr 1
    exact Array.toList_inj.1 h
  · intro h; rw [h]

theorem rank_inj {k k' : Int} (h : 0 ≤ k) (h' : 0 ≤ k') : rankI k = rankI k' ↔ k = k' := by
  unfold rankI
  constructor
  · intro e
    split at e <;> split at e <;> (try split at e) <;> (try split at e) <;> (try split at e) <;> (try split at e) <;> omega
  · intro e; rw [e]

/-- Compare, as the first of five signs that is not 0. -/
theorem cmp_or (k n k' n' : Int) (s s' : ByteArray) (us us' : List Tm) : Tm.cmp (.mk k n s us) (.mk k' n' s' us') =
    orI (Lib.compareInt (rankI k) (rankI k')) (orI (if k = 1 then Lib.compareInt n n' else 0) (orI (Lib.compareInt us.length us'.length) (orI (strCmp s s') (orI (Tm.cmpL us us') (Lib.compareInt n n'))))) := by
  simp only [Tm.cmp]
  by_cases h1 : Lib.compareInt (rankI k) (rankI k') = 0
  · rw [if_neg (fun e => e h1), orI_r h1]
    by_cases hk : k = 1 ∧ n ≠ n'
    · rw [if_pos hk, if_pos hk.1, orI_l (fun e => hk.2 (int_zero.1 e))]
    · have z : (if k = 1 then Lib.compareInt n n' else 0) = 0 := by
        split
        · next hk1 => exact int_zero.2 (Decidable.byContradiction fun e => hk ⟨hk1, e⟩)
        · rfl
      rw [if_neg hk, orI_r z]
      by_cases h3 : Lib.compareInt us.length us'.length = 0
      · rw [orI_r h3, orI_r h3]
        by_cases h4 : strCmp s s' = 0
        · rw [if_neg (fun e => e h4), orI_r h4]
          rfl
        · rw [if_pos h4, orI_l h4]
      · rw [orI_l h3, orI_l h3, if_pos h3]
  · rw [if_pos h1, orI_l h1]
theorem cmpL_cons (a b : Tm) (us bs : List Tm) : Tm.cmpL (a :: us) (b :: bs) = orI (Tm.cmp a b) (Tm.cmpL us bs) := by simp only [Tm.cmpL]; rfl

mutual
/-- No kind is negative. -/
def Tm.Good : Tm → Prop
  | .mk k _ _ us => 0 ≤ k ∧ Tm.GoodL us
def Tm.GoodL : List Tm → Prop
  | [] => True
  | t :: ts => Tm.Good t ∧ Tm.GoodL ts
end
mutual
theorem cmp_sg : ∀ a b : Tm, Sg (Tm.cmp a b)
  | .mk k n s us, .mk k' n' s' us' => by
    rw [cmp_or]
    refine (int_sg _ _).or (Sg.or ?_ ((int_sg _ _).or ((byC_sg _ _).or ((cmpL_sg us us').or (int_sg _ _)))))
    split
    · exact int_sg _ _
    · exact Or.inr (Or.inl rfl)
theorem cmpL_sg : ∀ a b : List Tm, Sg (Tm.cmpL a b)
  | [], [] => by simp only [Tm.cmpL]; exact Or.inr (Or.inl rfl)
  | [], _ :: _ => by simp only [Tm.cmpL]; exact Or.inl rfl
  | _ :: _, [] => by simp only [Tm.cmpL]; exact Or.inr (Or.inr rfl)
  | a :: us, b :: bs => by rw [cmpL_cons]; exact (cmp_sg a b).or (cmpL_sg us bs)
end
mutual
theorem cmp_neg : ∀ a b : Tm, a.Good → b.Good → Tm.cmp b a = -Tm.cmp a b
  | .mk k n s us, .mk k' n' s' us', ha, hb => by
    simp only [Tm.Good] at ha hb
    rw [cmp_or, cmp_or]
    refine orI_neg (int_neg _ _) (fun h => ?_)
    have hk : k = k' := (rank_inj ha.1 hb.1).1 (int_zero.1 h)
    subst hk
    refine orI_neg ?_ (fun _ => orI_neg (int_neg _ _) (fun _ => orI_neg (byC_neg _ _) (fun _ => orI_neg (cmpL_neg us us' ha.2 hb.2) (fun _ => int_neg _ _))))
    split
    · exact int_neg _ _
    · rfl
theorem cmpL_neg : ∀ a b : List Tm, Tm.GoodL a → Tm.GoodL b → Tm.cmpL b a = -Tm.cmpL a b
  | [], [], _, _ => by simp only [Tm.cmpL]; rfl
  | [], _ :: _, _, _ => by simp only [Tm.cmpL]; rfl
  | _ :: _, [], _, _ => by simp only [Tm.cmpL]
  | a :: us, b :: bs, ha, hb => by
    simp only [Tm.GoodL] at ha hb
    rw [cmpL_cons, cmpL_cons]
    exact orI_neg (cmp_neg a b ha.1 hb.1) (fun _ => cmpL_neg us bs ha.2 hb.2)
end
mutual
theorem cmp_zero : ∀ a b : Tm, a.Good → b.Good → (Tm.cmp a b = 0 ↔ a = b)
  | .mk k n s us, .mk k' n' s' us', ha, hb => by
    simp only [Tm.Good] at ha hb
    rw [cmp_or, orI_zero, orI_zero, orI_zero, orI_zero, orI_zero, int_zero, int_zero, int_zero, strCmp_eq, byC_zero, str_inj, cmpL_zero us us' ha.2 hb.2, rank_inj ha.1 hb.1]
    constructor
    · rintro ⟨rfl, _, _, rfl, rfl, rfl⟩; rfl
    · intro e
      injection e with e1 e2 e3 e4
      subst e1 e2 e3 e4
      refine ⟨rfl, ?_, rfl, rfl, rfl, rfl⟩
      split
      · exact int_zero.2 rfl
      · rfl
theorem cmpL_zero : ∀ a b : List Tm, Tm.GoodL a → Tm.GoodL b → (Tm.cmpL a b = 0 ↔ a = b)
  | [], [], _, _ => by simp only [Tm.cmpL]
  | [], _ :: _, _, _ => by simp [Tm.cmpL]
  | _ :: _, [], _, _ => by simp [Tm.cmpL]
  | a :: us, b :: bs, ha, hb => by
    simp only [Tm.GoodL] at ha hb
    rw [cmpL_cons, orI_zero, cmp_zero a b ha.1 hb.1, cmpL_zero us bs ha.2 hb.2, List.cons.injEq]
end
mutual
theorem cmp_tri : ∀ a b c : Tm, a.Good → b.Good → c.Good → Tri (Tm.cmp a b) (Tm.cmp b c) (Tm.cmp a c)
  | .mk k n s us, .mk k' n' s' us', .mk k2 n2 s2 us2, ha, hb, hc => by
    simp only [Tm.Good] at ha hb hc
    rw [cmp_or, cmp_or, cmp_or]
    refine (int_tri _ _ _).or (fun h h' => ?_)
    have hk : k = k' := (rank_inj ha.1 hb.1).1 (int_zero.1 h)
    have hk' : k' = k2 := (rank_inj hb.1 hc.1).1 (int_zero.1 h')
    subst hk hk'
    refine Tri.or ?_ (fun _ _ => (int_tri _ _ _).or (fun _ _ => (byC_tri _ _ _).or (fun _ _ => (cmpL_tri us us' us2 ha.2 hb.2 hc.2).or (fun _ _ => int_tri _ _ _))))
    split
    · exact int_tri _ _ _
    · intro _ _; exact ⟨by omega, by omega⟩
theorem cmpL_tri : ∀ a b c : List Tm, Tm.GoodL a → Tm.GoodL b → Tm.GoodL c → Tri (Tm.cmpL a b) (Tm.cmpL b c) (Tm.cmpL a c)
  | [], [], [], _, _, _ => by intro _ _; simp [Tm.cmpL]
  | [], [], _ :: _, _, _, _ => by intro _ _; simp [Tm.cmpL]
  | [], _ :: _, [], _, _, _ => by intro _ h2; simp [Tm.cmpL] at h2
  | [], _ :: _, _ :: _, _, _, _ => by intro _ _; simp [Tm.cmpL]
  | _ :: _, [], _, _, _, _ => by intro h1; simp [Tm.cmpL] at h1
  | _ :: _, _ :: _, [], _, _, _ => by intro _ h2; simp [Tm.cmpL] at h2
  | a :: us, b :: bs, c :: cs, ha, hb, hc => by
    simp only [Tm.GoodL] at ha hb hc
    rw [cmpL_cons, cmpL_cons, cmpL_cons]
    exact (cmp_tri a b c ha.1 hb.1 hc.1).or (fun _ _ => cmpL_tri us bs cs ha.2 hb.2 hc.2)
end

mutual
theorem good_of {B : Nat} {w : World} {c0 c1 c2 c3 : Value} : ∀ {t : Tm}, IsTm B w c0 c1 c2 c3 t → t.Good
  | .mk k n s us, h => by
    simp only [IsTm] at h
    obtain ⟨_, hk, _, _, _, _, a, cap, _, _, hr⟩ := h
    simp only [Tm.Good]
    refine ⟨hk.1, ?_⟩
    by_cases hne : us = []
    · subst hne; simp only [Tm.GoodL]
    · obtain ⟨b, off, _, _, hi⟩ := hr hne
      exact goodL_of hi
theorem goodL_of {B : Nat} {w : World} {b off : Nat} : ∀ {ts : List Tm}, IsTms B w b off ts → Tm.GoodL ts
  | [], _ => by simp only [Tm.GoodL]
  | t :: ts, h => by
    simp only [IsTms] at h
    obtain ⟨c0, c1, c2, c3, _, _, _, _, hi, hr⟩ := h
    simp only [Tm.GoodL]
    exact ⟨good_of hi, goodL_of hr⟩
end
end Go.Proofs.YtcoieohbmkjpoaaGreatDoor
namespace Go.Proofs.YtcoieohbmkjpoaaGreatDoor
open Go.RowKit

/-- Edges lead back; each slot is written once, and exists. -/
def regionOk (ops : Array Oper) (n : Nat) : Bool := (List.range ops.size).all fun i =>
  match ops[i]? with
  | some o => (o.after.all fun e => decide (e.on < i)) && (match o.dst with
    | some d => decide (d < n) && (List.range i).all fun j => ((ops[j]?).bind (·.dst)) != some d
    | none => true)
  | none => true

theorem regionOk_spec {ops : Array Oper} {n : Nat} (h : regionOk ops n = true) (i : Nat) (o : Oper) (ho : ops[i]? = some o) :
    (∀ e ∈ o.after, e.on < i) ∧ ∀ d, o.dst = some d → d < n ∧ ∀ j oj, j < i → ops[j]? = some oj → oj.dst ≠ some d := by
  have hi : i < ops.size := (Array.getElem?_eq_some_iff.1 ho).1
  have h1 := List.all_eq_true.1 h i (List.mem_range.2 hi)
  simp only [ho, Bool.and_eq_true, Array.all_eq_true_iff_forall_mem, decide_eq_true_eq] at h1
  refine ⟨h1.1, fun d hd => ?_⟩
  have h2 := h1.2
  simp only [hd, Bool.and_eq_true, decide_eq_true_eq, List.all_eq_true, List.mem_range, bne_iff_ne, ne_eq] at h2
  refine ⟨h2.1, fun j oj hj hoj e => h2.2 j hj ?_⟩
  simp [hoj, e]

/-- No operation writes slot t. -/
def noDst (ops : Array Oper) (t : Tmp) : Bool := ops.all fun o => o.dst != some t
theorem noDst_spec {ops : Array Oper} {t : Tmp} (h : noDst ops t = true) (i : Nat) (o : Oper) (ho : ops[i]? = some o) : o.dst ≠ some t := by
  unfold noDst at h
  rw [Array.all_eq_true_iff_forall_mem] at h
  have := h o (Array.mem_of_getElem? ho)
  simpa using this
/-- Operation o waits for operation j. -/
def waitsFor (o : Oper) (j : Nat) : Bool := o.after.any fun e => e.on == j && Region.binds .any e
theorem waitsFor_spec {o : Oper} {j : Nat} (h : waitsFor o j = true) : ∃ e ∈ o.after, e.on = j ∧ Region.binds .any e = true := by
  unfold waitsFor at h
  obtain ⟨k, hk, h⟩ := Array.any_eq_true.1 h
  simp only [Bool.and_eq_true, beq_iff_eq] at h
  exact ⟨o.after[k], Array.getElem_mem hk, h.1, h.2⟩
/-- Operation o waits for all the others. -/
def waitsAll (o : Oper) (m n : Nat) : Bool := (List.range n).all fun j => j == m || waitsFor o j
theorem waitsAll_spec {o : Oper} {m n : Nat} (h : waitsAll o m n = true) (j : Nat) (hj : j < n) (hne : j ≠ m) : waitsFor o j = true := by
  have := List.all_eq_true.1 h j (List.mem_range.2 hj)
  simpa [hne] using this
theorem yielded_bool {ops : Array Oper} {tmps : Array Value} {j d : Nat} {b : Bool} {o : Oper} (ho : ops[j]? = some o) (hd : o.dst = some d) (hv : tmps.getD d undef = .bool b) : yielded ops tmps j = some b := by
  have : tmps[d]? = some (.bool b) := by
    rw [Array.getD_eq_getD_getElem?] at hv
    cases h : tmps[d]? with
    | none => rw [h] at hv; cases hv
    | some v => rw [h] at hv; simpa using hv
  simp [yielded, ho, hd, this]

/-- What holds of the slot that operation i writes. -/
abbrev Facts := Nat → Value → World → Prop

structure RegInv (ops : Array Oper) (Φ : Facts) (a0 : Act) (w0 : World) (listed : Array Bool) (a : Act) (w : World) : Prop where
  size : listed.size = ops.size
  below : Below w0.heap.size w0 w
  defers : a.defers = a0.defers
  tmps : a.tmps.size = a0.tmps.size
  outer : ∀ t, noDst ops t = true → a.tmps.getD t undef = a0.tmps.getD t undef
  facts : ∀ i o d, ops[i]? = some o → listed.getD i false = true → o.dst = some d → Φ i (a.tmps.getD d undef) w

/-- Where operation i has come to. -/
def Stepped (Φ : Facts) (i : Nat) (o : Oper) (a : Act) (w : World) (a' : Act) (w' : World) : Prop := ∃ v, a' = a.put o.dst v ∧ Below w.heap.size w w' ∧ ∀ d, o.dst = some d → Φ i v w'
theorem Stepped.at {Φ : Facts} {i : Nat} {o : Oper} {a : Act} {w w' : World} {v : Value} {tm : Array Value} {df : List Deferred} (hv : tm = (a.put o.dst v).tmps) (hf : a.defers = df) (hb : Below w.heap.size w w') (hΦ : Φ i v w') :
    Stepped Φ i o a w ⟨tm, df⟩ w' := by
  refine ⟨v, ?_, hb, fun _ _ => hΦ⟩
  subst hv hf
  cases o.dst <;> rfl
/-- What operation i owes: from the facts of the operations that it waits for, in a world that has only grown. -/
def StepAt (P : Program) (ops : Array Oper) (Q : Exit → Act → World → Prop) (Φ : Facts) (a0 : Act) (w0 : World) (i : Nat) (o : Oper) : Prop :=
  ∀ a w, Below w0.heap.size w0 w → a.defers = a0.defers → a.tmps.size = a0.tmps.size →
    (∀ t, noDst ops t = true → a.tmps.getD t undef = a0.tmps.getD t undef) →
    (∀ j oj d, waitsFor o j = true → ops[j]? = some oj → oj.dst = some d → Φ j (a.tmps.getD d undef) w) →
    Region.wanted o (yielded ops a.tmps) = true ∧ o.wp P a w (Stepped Φ i o a w) Q

/-- An invariant of what has been listed carries a region through every order. -/
theorem wpAny_inv {P : Program} {ops : Array Oper} {Q : Exit → Act → World → Prop} {n : Nat} (hok : regionOk ops n = true) (J : Array Bool → Act → World → Prop) (hsize : ∀ l a w, J l a w → l.size = ops.size)
    (step : ∀ l a w i o, J l a w → l.getD i true = false → ops[i]? = some o → (∀ e ∈ o.after, Region.binds .any e = true → l.getD e.on false = true) → wpOp P ops Q i (fun a' w' => J (l.setIfInBounds i true) a' w') a w)
    (fin : ∀ a w, J (Array.replicate ops.size true) a w → Q .normal a w) :
    ∀ (fuel : Nat) (listed : Array Bool) (a : Act) (w : World), J listed a w → ((List.range ops.size).filter fun i => !listed.getD i true).length ≤ fuel →
      wpAny P .any ops Q fuel listed a w := by
  have hend : ∀ (listed : Array Bool) (a : Act) (w : World), J listed a w → Region.ready .any ops listed = [] → Q .normal a w := by
    intro listed a w hJ hr
    have hall : ∀ i, i < ops.size → listed.getD i true = true := by
      intro i
      induction i using Nat.strongRecOn with
      | _ i ih =>
        intro hi
        by_cases hl : listed.getD i true = true
        · exact hl
        · exfalso
          have hmem : i ∈ Region.ready .any ops listed := by
            unfold Region.ready
            obtain ⟨o, ho⟩ : ∃ o, ops[i]? = some o := ⟨ops[i], Array.getElem?_eq_getElem hi⟩
            refine List.mem_filter.2 ⟨List.mem_range.2 hi, ?_⟩
            simp only [ho, Option.map_some, Option.getD_some, Bool.and_eq_true, Bool.not_eq_true', Array.all_eq_true_iff_forall_mem, Bool.or_eq_true]
            refine ⟨by simpa using hl, fun e he => Or.inr ?_⟩
            have hlt := (regionOk_spec hok i o ho).1 e he
            have := ih e.on hlt (by omega)
            have hs : e.on < listed.size := by rw [hsize _ _ _ hJ]; omega
            simp only [Array.getD, hs, dif_pos] at this ⊢
            exact this
          rw [hr] at hmem
          cases hmem
    have heq : listed = Array.replicate ops.size true := by
      apply Array.ext
      · rw [hsize _ _ _ hJ, Array.size_replicate]
      · intro i h1 h2
        have := hall i (by rw [← hsize _ _ _ hJ]; exact h1)
        simp only [Array.getD, h1, dif_pos] at this
        simpa using this
    exact fin a w (heq ▸ hJ)
  intro fuel
  induction fuel with
  | zero =>
    intro listed a w hJ hf
    have hr : Region.ready .any ops listed = [] := by
      unfold Region.ready
      rw [List.filter_eq_nil_iff]
      intro i hi h
      have hnil := List.length_eq_zero_iff.1 (Nat.le_zero.1 hf)
      rw [List.filter_eq_nil_iff] at hnil
      simp only [Bool.and_eq_true] at h
      exact hnil i hi h.1
    exact ⟨hr, hend listed a w hJ hr⟩
  | succ fuel ih =>
    intro listed a w hJ hf
    refine ⟨hend listed a w hJ, fun i hi => ?_⟩
    unfold Region.ready at hi
    obtain ⟨hir, hib⟩ := List.mem_filter.1 hi
    have hi' : i < ops.size := List.mem_range.1 hir
    obtain ⟨o, ho⟩ : ∃ o, ops[i]? = some o := ⟨ops[i], Array.getElem?_eq_getElem hi'⟩
    simp only [ho, Option.map_some, Option.getD_some, Bool.and_eq_true, Bool.not_eq_true', Array.all_eq_true_iff_forall_mem, Bool.or_eq_true] at hib
    obtain ⟨hil, hie⟩ := hib
    refine wpOp_mono ?_ (step listed a w i o hJ hil ho (fun e he hb => (hie e he).resolve_left (by rw [hb]; decide)))
    intro a' w' hJ'
    have hls : i < listed.size := by rw [hsize _ _ _ hJ]; exact hi'
    refine ih _ _ _ hJ' ?_
    have hlt : ((List.range ops.size).filter fun j => !(listed.setIfInBounds i true).getD j true).length < ((List.range ops.size).filter fun j => !listed.getD j true).length := by
      have hsub : ((List.range ops.size).filter fun j => !(listed.setIfInBounds i true).getD j true) = ((List.range ops.size).filter fun j => !listed.getD j true).filter (fun j => j != i) := by
        rw [List.filter_filter]
        apply List.filter_congr
        intro j hj
        by_cases e : j = i
        · subst e; simp [Array.getD_eq_getD_getElem?, hls]
        · simp [Array.getD_eq_getD_getElem?, Array.getElem?_setIfInBounds_ne (fun h => e h.symm), e]
      rw [hsub]
      refine List.length_filter_lt_length_iff_exists.2 ⟨i, List.mem_filter.2 ⟨List.mem_range.2 hi', by simpa using hil⟩, by simp⟩
    omega

/-- One step of the invariant. -/
theorem RegInv.put {ops : Array Oper} {Φ : Facts} {a0 : Act} {w0 : World} (hst : ∀ i v w w', Φ i v w → Below w.heap.size w w' → Φ i v w') (hok : regionOk ops a0.tmps.size = true)
    {listed : Array Bool} {a : Act} {w : World} (hJ : RegInv ops Φ a0 w0 listed a w) {i : Nat} {o : Oper} (ho : ops[i]? = some o) {v : Value} {w' : World} (hb : Below w.heap.size w w') (hv : ∀ d, o.dst = some d → Φ i v w') :
    RegInv ops Φ a0 w0 (listed.setIfInBounds i true) (a.put o.dst v) w' := by
  refine ⟨by simp [hJ.size], hJ.below.trans (hb.mono hJ.below.size), ?_, ?_, ?_, ?_⟩
  · rw [← hJ.defers]; cases o.dst <;> rfl
  · rw [← hJ.tmps]; cases o.dst <;> simp [Act.put]
  · intro t ht
    rw [← hJ.outer t ht]
    cases hd : o.dst with
    | none => rfl
    | some d =>
      have hne : d ≠ t := fun e => noDst_spec ht i o ho (by rw [hd, e])
      simp [Act.put, Array.getD_eq_getD_getElem?, Array.getElem?_setIfInBounds_ne hne]
  · intro j oj d hoj hlj hd
    by_cases hji : j = i
    · subst hji
      obtain rfl : oj = o := by rw [ho] at hoj; exact (Option.some.inj hoj).symm
      have hdn := ((regionOk_spec hok j oj ho).2 d hd).1
      rw [hd]
      have e : (a.put (some d) v).tmps.getD d undef = v := by
        have : d < a.tmps.size := by rw [hJ.tmps]; exact hdn
        simp [Act.put, Array.getD_eq_getD_getElem?, this]
      rw [e]
      exact hv d hd
    · have hlj' : listed.getD j false = true := by
        simpa [Array.getD_eq_getD_getElem?, Array.getElem?_setIfInBounds_ne (fun e => hji e.symm)] using hlj
      have hf0 := hst _ _ _ _ (hJ.facts j oj d hoj hlj' hd) hb
      cases hd' : o.dst with
      | none => exact hf0
      | some d' =>
        have hne : d' ≠ d := by
          intro e
          subst e
          rcases Nat.lt_or_gt_of_ne hji with h | h
          · exact ((regionOk_spec hok i o ho).2 d' hd').2 j oj h hoj hd
          · exact ((regionOk_spec hok j oj hoj).2 d' hd).2 i o h ho hd'
        simpa [Act.put, Array.getD_eq_getD_getElem?, Array.getElem?_setIfInBounds_ne hne] using hf0

theorem RegInv.start {ops : Array Oper} {Φ : Facts} {a0 : Act} {w0 : World} : RegInv ops Φ a0 w0 (Array.replicate ops.size false) a0 { w0 with drawn := w0.drawn + 1 } := by
  refine ⟨by simp, (Below.refl _ w0).drew, rfl, rfl, fun _ _ => rfl, ?_⟩
  intro i o d ho hl _
  have hi := (Array.getElem?_eq_some_iff.1 ho).1
  simp [Array.getD_eq_getD_getElem?, hi] at hl

/-- The rule. -/
theorem wp_region_grow {P : Program} {ops : Array Oper} {Q : Exit → Act → World → Prop} {id : Nat} {a0 : Act} {w0 : World} (hm : P.follows .mixedOrders = true) (Φ : Facts) (hst : ∀ i v w w', Φ i v w → Below w.heap.size w w' → Φ i v w')
    (hok : regionOk ops a0.tmps.size = true) (step : ∀ i o, ops[i]? = some o → StepAt P ops Q Φ a0 w0 i o)
    (fin : ∀ a w, RegInv ops Φ a0 w0 (Array.replicate ops.size true) a w → Q .normal a w) : (Code.region id ops true).wp P Q a0 w0 := by
  refine wp_region_any hm (wpAny_inv hok (RegInv ops Φ a0 w0) (fun _ _ _ h => h.size) ?_ fin ops.size _ a0 _ RegInv.start ?_)
  · intro l a w i o hJ hil ho hie
    obtain ⟨hw, hwp⟩ := step i o ho a w hJ.below hJ.defers hJ.tmps hJ.outer (fun j oj d hwt hoj hd => by obtain ⟨e, he, hej, hb⟩ := waitsFor_spec hwt; exact hJ.facts j oj d hoj (hej ▸ hie e he hb) hd)
    unfold wpOp
    simp only [ho, hw, if_true]
    refine Or.inl (Oper.wp_mono ?_ hwp)
    rintro a' w' ⟨v, rfl, hb, hv⟩
    exact hJ.put hst hok ho hb hv
  · exact Nat.le_trans (List.length_filter_le _ _) (by simp)

/-- The rule where a last operation, which waits for all others, may do more. -/
theorem wp_region_grow_last {P : Program} {ops : Array Oper} {Q : Exit → Act → World → Prop} {id : Nat} {a0 : Act} {w0 : World} (hm : P.follows .mixedOrders = true) (Φ : Facts) (hst : ∀ i v w w', Φ i v w → Below w.heap.size w w' → Φ i v w')
    (hok : regionOk ops a0.tmps.size = true) (m : Nat) (om : Oper) (hom : ops[m]? = some om) (hwait : waitsAll om m ops.size = true)
    (step : ∀ i o, ops[i]? = some o → i ≠ m → StepAt P ops Q Φ a0 w0 i o)
    (last : ∀ a w, Below w0.heap.size w0 w → a.defers = a0.defers → a.tmps.size = a0.tmps.size → (∀ t, noDst ops t = true → a.tmps.getD t undef = a0.tmps.getD t undef) →
      (∀ i o d, ops[i]? = some o → i ≠ m → o.dst = some d → Φ i (a.tmps.getD d undef) w) → wpOp P ops Q m (Q .normal) a w) : (Code.region id ops true).wp P Q a0 w0 := by
  have hwait := waitsAll_spec hwait
  refine wp_region_any hm (wpAny_inv hok (fun l a w => l.size = ops.size ∧ ((l.getD m true = false ∧ RegInv ops Φ a0 w0 l a w) ∨ (l.getD m false = true ∧ Q .normal a w ∧ ∀ j, j < ops.size → l.getD j false = true))) (fun _ _ _ h => h.1) ?_ ?_ ops.size _ a0 _ ⟨by simp, Or.inl ⟨?_, RegInv.start⟩⟩ ?_)
  · rintro l a w i o ⟨hls, hJ⟩ hil ho hie
    have hi' : i < ops.size := (Array.getElem?_eq_some_iff.1 ho).1
    rcases hJ with ⟨hlm, hJ⟩ | ⟨_, _, hall⟩
    · by_cases him : i = m
      · subst him
        obtain rfl : o = om := by rw [hom] at ho; exact (Option.some.inj ho).symm
        have hothers : ∀ j, j < ops.size → j ≠ i → l.getD j false = true := by
          intro j hj hne
          obtain ⟨e, he, hej, hb⟩ := waitsFor_spec (hwait j hj hne)
          rw [← hej]; exact hie e he hb
        refine wpOp_mono ?_ (last a w hJ.below hJ.defers hJ.tmps hJ.outer (fun j oj d hoj hne hd => hJ.facts j oj d hoj (hothers j (Array.getElem?_eq_some_iff.1 hoj).1 hne) hd))
        intro a' w' hQ
        refine ⟨by simp [hls], Or.inr ⟨?_, hQ, ?_⟩⟩
        · simp [Array.getD_eq_getD_getElem?, hls, hi']
        · intro j hj
          by_cases e : j = i
          · subst e; simp [Array.getD_eq_getD_getElem?, hls, hi']
          · have := hothers j hj e
            simpa [Array.getD_eq_getD_getElem?, Array.getElem?_setIfInBounds_ne (fun h => e h.symm)] using this
      · obtain ⟨hw, hwp⟩ := step i o ho him a w hJ.below hJ.defers hJ.tmps hJ.outer (fun j oj d hwt hoj hd => by obtain ⟨e, he, hej, hb⟩ := waitsFor_spec hwt; exact hJ.facts j oj d hoj (hej ▸ hie e he hb) hd)
        unfold wpOp
        simp only [ho, hw, if_true]
        refine Or.inl (Oper.wp_mono ?_ hwp)
        rintro a' w' ⟨v, rfl, hb, hv⟩
        exact ⟨by simp [hls], Or.inl ⟨by simpa [Array.getD_eq_getD_getElem?, Array.getElem?_setIfInBounds_ne him] using hlm, hJ.put hst hok ho hb hv⟩⟩
    · exfalso
      have h1 := hall i hi'
      have : i < l.size := by omega
      simp only [Array.getD, this, dif_pos] at h1 hil
      rw [h1] at hil; cases hil
  · rintro a w ⟨_, ⟨hm', _⟩ | ⟨_, hQ, _⟩⟩
    · have hms := (Array.getElem?_eq_some_iff.1 hom).1
      simp [Array.getD_eq_getD_getElem?, hms] at hm'
    · exact hQ
  · have hms := (Array.getElem?_eq_some_iff.1 hom).1
    simp [Array.getD_eq_getD_getElem?, hms]
  · exact Nat.le_trans (List.length_filter_le _ _) (by simp)

/-- The steps of a list of operations, one after the other. -/
def StepsOf (P : Program) (ops : Array Oper) (Q : Exit → Act → World → Prop) (Φ : Facts) (a0 : Act) (w0 : World) : Nat → List Oper → Prop
  | _, [] => True
  | i, o :: r => StepAt P ops Q Φ a0 w0 i o ∧ StepsOf P ops Q Φ a0 w0 (i + 1) r
theorem stepsOf_get {P : Program} {ops : Array Oper} {Q : Exit → Act → World → Prop} {Φ : Facts} {a0 : Act} {w0 : World} : ∀ {l : List Oper} {k : Nat}, StepsOf P ops Q Φ a0 w0 k l → ∀ i o, l[i]? = some o → StepAt P ops Q Φ a0 w0 (k + i) o
  | [], _, _, i, o, h => by simp at h
  | x :: r, k, hs, i, o, h => by
    cases i with
    | zero => simp at h; subst h; exact hs.1
    | succ i =>
      have := stepsOf_get hs.2 i o (by simpa using h)
      rwa [show k + 1 + i = k + (i + 1) by omega] at this
theorem steps_all {P : Program} {ops : Array Oper} {Q : Exit → Act → World → Prop} {Φ : Facts} {a0 : Act} {w0 : World} (H : StepsOf P ops Q Φ a0 w0 0 ops.toList) : ∀ i o, ops[i]? = some o → StepAt P ops Q Φ a0 w0 i o := by
  intro i o ho
  have := stepsOf_get H i o (by simpa using ho)
  rwa [Nat.zero_add] at this
theorem steps_but {P : Program} {ops : Array Oper} {Q : Exit → Act → World → Prop} {Φ : Facts} {a0 : Act} {w0 : World} (m : Nat) (hm : ops.size = m + 1) (H : StepsOf P ops Q Φ a0 w0 0 (ops.toList.take m)) :
    ∀ i o, ops[i]? = some o → i ≠ m → StepAt P ops Q Φ a0 w0 i o := by
  intro i o ho hne
  have hi := (Array.getElem?_eq_some_iff.1 ho).1
  have := stepsOf_get H i o (by rw [List.getElem?_take_of_lt (by omega)]; simpa using ho)
  rwa [Nat.zero_add] at this
/-- What a step knows of the operations that it waits for. -/
abbrev HP (ops : Array Oper) (Φ : Facts) (o : Oper) (a : Act) (w : World) : Prop := ∀ j oj d, waitsFor o j = true → ops[j]? = some oj → oj.dst = some d → Φ j (a.tmps.getD d undef) w
def dstAt (ops : Array Oper) (j d : Nat) : Bool := match ops[j]? with
  | some oj => oj.dst == some d
  | none => false
def fromOp (ops : Array Oper) (o : Oper) (j d : Nat) : Bool := waitsFor o j && dstAt ops j d
theorem dstAt_spec {ops : Array Oper} {j d : Nat} (h : dstAt ops j d = true) : ∃ oj, ops[j]? = some oj ∧ oj.dst = some d := by
  unfold dstAt at h
  cases ho : ops[j]? with
  | none => rw [ho] at h; cases h
  | some oj => rw [ho] at h; exact ⟨oj, rfl, by simpa using h⟩
theorem facts_at {ops : Array Oper} {Φ : Facts} {o : Oper} {a : Act} {w : World} (hp : HP ops Φ o a w) (j d : Nat) (h : fromOp ops o j d = true) : Φ j (a.tmps.getD d undef) w := by
  unfold fromOp at h
  rw [Bool.and_eq_true] at h
  obtain ⟨oj, h1, h2⟩ := dstAt_spec h.2
  exact hp j oj d h.1 h1 h2
theorem yielded_at {ops : Array Oper} {tmps : Array Value} {k d : Nat} {b : Bool} (h : dstAt ops k d = true) (hv : tmps.getD d undef = .bool b) : yielded ops tmps k = some b := by
  obtain ⟨oj, h1, h2⟩ := dstAt_spec h
  exact yielded_bool h1 h2 hv
theorem RegInv.at_end {ops : Array Oper} {Φ : Facts} {a0 a : Act} {w0 w : World} (hJ : RegInv ops Φ a0 w0 (Array.replicate ops.size true) a w) (j d : Nat) (h : dstAt ops j d = true) : Φ j (a.tmps.getD d undef) w := by
  obtain ⟨oj, h1, h2⟩ := dstAt_spec h
  have hj := (Array.getElem?_eq_some_iff.1 h1).1
  exact hJ.facts j oj d h1 (by simp [Array.getD_eq_getD_getElem?, hj]) h2
theorem wpOp_of {P : Program} {ops : Array Oper} {Q : Exit → Act → World → Prop} {R : Act → World → Prop} {i : Nat} {o : Oper} {a : Act} {w : World} (ho : ops[i]? = some o) (hg : o.guard = none) (h : o.wp P a w R Q) : wpOp P ops Q i R a w := by
  have hw : Region.wanted o (yielded ops a.tmps) = true := by unfold Region.wanted; rw [hg]
  unfold wpOp
  simp only [ho, hw, if_true]
  exact Or.inl h
end Go.Proofs.YtcoieohbmkjpoaaGreatDoor
namespace Go.Proofs.YtcoieohbmkjpoaaGreatDoor
open Go.RowKit

/-- Operation i waits for operation j, at some remove. -/
def waitsT (ops : Array Oper) : Nat → Nat → Nat → Bool
  | 0, _, _ => false
  | f + 1, i, j => match ops[i]? with
    | some o => o.after.any fun e => Region.binds .any e && (e.on == j || waitsT ops f e.on j)
    | none => false
/-- From n on, each operation waits for all before it. -/
def tailOk (ops : Array Oper) (n : Nat) : Bool := decide (n < ops.size) && (List.range ops.size).all fun m => decide (m < n) || (List.range m).all fun j => waitsT ops ops.size m j
theorem tailOk_lt {ops : Array Oper} {n : Nat} (h : tailOk ops n = true) : n < ops.size := by
  unfold tailOk at h
  rw [Bool.and_eq_true] at h
  simpa using h.1
theorem tailOk_spec {ops : Array Oper} {n : Nat} (h : tailOk ops n = true) (m : Nat) (hm : m < ops.size) (hn : n ≤ m) (j : Nat) (hj : j < m) : waitsT ops ops.size m j = true := by
  unfold tailOk at h
  rw [Bool.and_eq_true] at h
  have h1 := List.all_eq_true.1 h.2 m (List.mem_range.2 hm)
  rw [Bool.or_eq_true] at h1
  rcases h1 with h1 | h1
  · have := of_decide_eq_true h1; omega
  · exact List.all_eq_true.1 h1 j (List.mem_range.2 hj)

/-- What is listed is closed under waiting. -/
def ListedOk (ops : Array Oper) (l : Array Bool) : Prop := ∀ i o, ops[i]? = some o → l.getD i false = true → ∀ e ∈ o.after, Region.binds .any e = true → l.getD e.on false = true
theorem waits_listed {ops : Array Oper} {l : Array Bool} (hl : ListedOk ops l) (j : Nat) : ∀ (f i : Nat) (o : Oper), ops[i]? = some o → (∀ e ∈ o.after, Region.binds .any e = true → l.getD e.on false = true) → waitsT ops f i j = true → l.getD j false = true := by
  intro f
  induction f with
  | zero => intro i o _ _ h; simp [waitsT] at h
  | succ f ih =>
    intro i o ho he h
    simp only [waitsT, ho] at h
    obtain ⟨k, hk, h⟩ := Array.any_eq_true.1 h
    rw [Bool.and_eq_true, Bool.or_eq_true] at h
    have h1 := he _ (Array.getElem_mem hk) h.1
    rcases h.2 with h2 | h2
    · have e : o.after[k].on = j := by simpa using h2
      rw [← e]; exact h1
    · cases hq : ops[o.after[k].on]? with
      | none => cases f <;> simp [waitsT, hq] at h2
      | some o' => exact ih _ o' hq (hl _ o' hq h1) h2
theorem ListedOk.set {ops : Array Oper} {l : Array Bool} (hl : ListedOk ops l) (hs : l.size = ops.size) {i : Nat} {o : Oper} (ho : ops[i]? = some o) (hie : ∀ e ∈ o.after, Region.binds .any e = true → l.getD e.on false = true) : ListedOk ops (l.setIfInBounds i true) := by
  have up : ∀ j, l.getD j false = true → (l.setIfInBounds i true).getD j false = true := by
    intro j hj
    by_cases e : j = i
    · subst e
      have : j < l.size := by rw [hs]; exact (Array.getElem?_eq_some_iff.1 ho).1
      simp [Array.getD_eq_getD_getElem?, this]
    · simpa [Array.getD_eq_getD_getElem?, Array.getElem?_setIfInBounds_ne (fun h => e h.symm)] using hj
  intro j oj hoj hlj e he hb
  by_cases hji : j = i
  · subst hji
    obtain rfl : oj = o := by rw [ho] at hoj; exact (Option.some.inj hoj).symm
    exact up _ (hie e he hb)
  · have : l.getD j false = true := by simpa [Array.getD_eq_getD_getElem?, Array.getElem?_setIfInBounds_ne (fun h => hji h.symm)] using hlj
    exact up _ (hl j oj hoj this e he hb)

/-- No operation before n writes slot t. -/
def noDstTo (ops : Array Oper) (n : Nat) (t : Tmp) : Bool := (ops.toList.take n).all fun o => o.dst != some t
theorem noDstTo_spec {ops : Array Oper} {n : Nat} {t : Tmp} (h : noDstTo ops n t = true) (i : Nat) (hi : i < n) (o : Oper) (ho : ops[i]? = some o) : o.dst ≠ some t := by
  unfold noDstTo at h
  have := List.all_eq_true.1 h o (by
    refine List.mem_of_getElem? (i := i) ?_
    rw [List.getElem?_take_of_lt hi]
    simpa using ho)
  simpa using this

structure HeadInvT (ops : Array Oper) (n : Nat) (Φ : Facts) (a0 : Act) (w0 : World) (listed : Array Bool) (a : Act) (w : World) : Prop where
  below : Below w0.heap.size w0 w
  defers : a.defers = a0.defers
  tmps : a.tmps.size = a0.tmps.size
  outer : ∀ t, noDstTo ops n t = true → a.tmps.getD t undef = a0.tmps.getD t undef
  facts : ∀ i o d, ops[i]? = some o → i < n → listed.getD i false = true → o.dst = some d → Φ i (a.tmps.getD d undef) w

/-- What an operation of the head owes. -/
def StepTo (P : Program) (ops : Array Oper) (n : Nat) (Q : Exit → Act → World → Prop) (Φ : Facts) (a0 : Act) (w0 : World) (i : Nat) (o : Oper) : Prop :=
  ∀ a w, Below w0.heap.size w0 w → a.defers = a0.defers → a.tmps.size = a0.tmps.size →
    (∀ t, noDstTo ops n t = true → a.tmps.getD t undef = a0.tmps.getD t undef) →
    (∀ j oj d, waitsFor o j = true → ops[j]? = some oj → oj.dst = some d → Φ j (a.tmps.getD d undef) w) →
    Region.wanted o (yielded ops a.tmps) = true ∧ o.wp P a w (Stepped Φ i o a w) Q

theorem HeadInvT.put {ops : Array Oper} {n : Nat} {Φ : Facts} {a0 : Act} {w0 : World} (hst : ∀ i v w w', Φ i v w → Below w.heap.size w w' → Φ i v w') (hok : regionOk ops a0.tmps.size = true)
    {listed : Array Bool} {a : Act} {w : World} (hJ : HeadInvT ops n Φ a0 w0 listed a w) {i : Nat} {o : Oper} (hin : i < n) (ho : ops[i]? = some o) {v : Value} {w' : World} (hb : Below w.heap.size w w') (hv : ∀ d, o.dst = some d → Φ i v w') :
    HeadInvT ops n Φ a0 w0 (listed.setIfInBounds i true) (a.put o.dst v) w' := by
  refine ⟨hJ.below.trans (hb.mono hJ.below.size), ?_, ?_, ?_, ?_⟩
  · rw [← hJ.defers]; cases o.dst <;> rfl
  · rw [← hJ.tmps]; cases o.dst <;> simp [Act.put]
  · intro t ht
    rw [← hJ.outer t ht]
    cases hd : o.dst with
    | none => rfl
    | some d =>
      have hne : d ≠ t := fun e => noDstTo_spec ht i hin o ho (by rw [hd, e])
      simp [Act.put, Array.getD_eq_getD_getElem?, Array.getElem?_setIfInBounds_ne hne]
  · intro j oj d hoj hjn hlj hd
    by_cases hji : j = i
    · subst hji
      obtain rfl : oj = o := by rw [ho] at hoj; exact (Option.some.inj hoj).symm
      have hdn := ((regionOk_spec hok j oj ho).2 d hd).1
      rw [hd]
      have e : (a.put (some d) v).tmps.getD d undef = v := by
        have : d < a.tmps.size := by rw [hJ.tmps]; exact hdn
        simp [Act.put, Array.getD_eq_getD_getElem?, this]
      rw [e]
      exact hv d hd
    · have hlj' : listed.getD j false = true := by
        simpa [Array.getD_eq_getD_getElem?, Array.getElem?_setIfInBounds_ne (fun e => hji e.symm)] using hlj
      have hf0 := hst _ _ _ _ (hJ.facts j oj d hoj hjn hlj' hd) hb
      cases hd' : o.dst with
      | none => exact hf0
      | some d' =>
        have hne : d' ≠ d := by
          intro e
          subst e
          rcases Nat.lt_or_gt_of_ne hji with h | h
          · exact ((regionOk_spec hok i o ho).2 d' hd').2 j oj h hoj hd
          · exact ((regionOk_spec hok j oj hoj).2 d' hd).2 i o h ho hd'
        simpa [Act.put, Array.getD_eq_getD_getElem?, Array.getElem?_setIfInBounds_ne hne] using hf0

theorem getD_set_ne {l : Array Bool} {i j : Nat} (h : j ≠ i) (b d : Bool) : (l.setIfInBounds i b).getD j d = l.getD j d := by
  simp [Array.getD_eq_getD_getElem?, Array.getElem?_setIfInBounds_ne (fun e => h e.symm)]
theorem getD_true_false {l : Array Bool} {i : Nat} (h : i < l.size) : l.getD i true = l.getD i false := by
  simp [Array.getD, h]

/-- The rule. -/
theorem wp_region_grow_tail {P : Program} {ops : Array Oper} {Q : Exit → Act → World → Prop} {id : Nat} {a0 : Act} {w0 : World} (hm : P.follows .mixedOrders = true) (n : Nat) (Φ : Facts) (hst : ∀ i v w w', Φ i v w → Below w.heap.size w w' → Φ i v w')
    (hok : regionOk ops a0.tmps.size = true) (htl : tailOk ops n = true)
    (step : ∀ i o, ops[i]? = some o → i < n → StepTo P ops n Q Φ a0 w0 i o)
    (tail : ∀ a w, Below w0.heap.size w0 w → a.defers = a0.defers → a.tmps.size = a0.tmps.size → (∀ t, noDstTo ops n t = true → a.tmps.getD t undef = a0.tmps.getD t undef) →
      (∀ i o d, ops[i]? = some o → i < n → o.dst = some d → Φ i (a.tmps.getD d undef) w) → wpList P ops Q (ops.toList.drop n) a w) : (Code.region id ops true).wp P Q a0 w0 := by
  have hlt := tailOk_lt htl
  have hcons : ∀ k o, ops[k]? = some o → ops.toList.drop k = o :: ops.toList.drop (k + 1) := by
    intro k o ho
    have hk := (Array.getElem?_eq_some_iff.1 ho).1
    rw [List.drop_eq_getElem_cons (by simpa using hk)]
    congr 1
    have := (Array.getElem?_eq_some_iff.1 ho).2
    simpa using this
  refine wp_region_any hm (wpAny_inv hok (fun l a w => l.size = ops.size ∧ ListedOk ops l ∧ (((∀ j, n ≤ j → l.getD j false = false) ∧ HeadInvT ops n Φ a0 w0 l a w) ∨
    ∃ k, n < k ∧ (∀ j, j < k → j < ops.size → l.getD j false = true) ∧ (∀ j, k ≤ j → l.getD j false = false) ∧ wpList P ops Q (ops.toList.drop k) a w)) (fun _ _ _ h => h.1) ?_ ?_ ops.size _ a0 _ ⟨by simp, ?_, Or.inl ⟨?_, ?_⟩⟩ ?_)
  · rintro l a w i o ⟨hls, hcl, hJ⟩ hil ho hie
    have hi' : i < ops.size := (Array.getElem?_eq_some_iff.1 ho).1
    have hil' : l.getD i false = false := by rw [← getD_true_false (by omega)]; exact hil
    have hcl' := hcl.set hls ho hie
    have hall : n ≤ i → ∀ j, j < i → l.getD j false = true := fun hni j hj => waits_listed hcl j ops.size i o ho hie (tailOk_spec htl i hi' hni j hj)
    rcases hJ with ⟨hun, hJ⟩ | ⟨k, hnk, hlk, huk, hwp⟩
    · by_cases hin : i < n
      · obtain ⟨hw, hwp⟩ := step i o ho hin a w hJ.below hJ.defers hJ.tmps hJ.outer (fun j oj d hwt hoj hd => by
          obtain ⟨e, he, hej, hb⟩ := waitsFor_spec hwt
          have hji : j < i := by rw [← hej]; exact (regionOk_spec hok i o ho).1 e he
          exact hJ.facts j oj d hoj (by omega) (hej ▸ hie e he hb) hd)
        unfold wpOp
        simp only [ho, hw, if_true]
        refine Or.inl (Oper.wp_mono ?_ hwp)
        rintro a' w' ⟨v, rfl, hb, hv⟩
        exact ⟨by simp [hls], hcl', Or.inl ⟨fun j hj => by rw [getD_set_ne (by omega)]; exact hun j hj, hJ.put hst hok hin ho hb hv⟩⟩
      · have hin' : i = n := by
          by_cases e : i = n
          · exact e
          · have h1 := hall (by omega) n (by omega)
            rw [hun n (Nat.le_refl _)] at h1; cases h1
        subst hin'
        have H := tail a w hJ.below hJ.defers hJ.tmps hJ.outer (fun j oj d hoj hj hd => hJ.facts j oj d hoj hj (hall (Nat.le_refl _) j hj) hd)
        rw [hcons i o ho] at H
        have H' : wpOp P ops Q i (wpList P ops Q (ops.toList.drop (i + 1))) a w := by
          unfold wpOp
          simp only [ho]
          exact H
        refine wpOp_mono ?_ H'
        intro a' w' hQ
        refine ⟨by simp [hls], hcl', Or.inr ⟨i + 1, by omega, fun j hj hjs => ?_, fun j hj => by rw [getD_set_ne (by omega)]; exact hun j (by omega), hQ⟩⟩
        by_cases e : j = i
        · subst e; simp [Array.getD_eq_getD_getElem?, hls, hi']
        · rw [getD_set_ne e]; exact hall (Nat.le_refl _) j (by omega)
    · have hik : i = k := by
        have h1 : k ≤ i := by
          by_cases e : k ≤ i
          · exact e
          · have := hlk i (by omega) hi'
            rw [hil'] at this; cases this
        by_cases e : i = k
        · exact e
        · have h2 := hall (by omega) k (by omega)
          rw [huk k (Nat.le_refl _)] at h2; cases h2
      subst hik
      rw [hcons i o ho] at hwp
      have H' : wpOp P ops Q i (wpList P ops Q (ops.toList.drop (i + 1))) a w := by
        unfold wpOp
        simp only [ho]
        exact hwp
      refine wpOp_mono ?_ H'
      intro a' w' hQ
      refine ⟨by simp [hls], hcl', Or.inr ⟨i + 1, by omega, fun j hj hjs => ?_, fun j hj => by rw [getD_set_ne (by omega)]; exact huk j (by omega), hQ⟩⟩
      by_cases e : j = i
      · subst e; simp [Array.getD_eq_getD_getElem?, hls, hi']
      · rw [getD_set_ne e]; exact hlk j (by omega) hjs
  · rintro a w ⟨_, _, ⟨hun, _⟩ | ⟨k, _, _, huk, hwp⟩⟩
    · have := hun n (Nat.le_refl _)
      simp [Array.getD_eq_getD_getElem?, hlt] at this
    · have hk : ops.size ≤ k := by
        by_cases e : ops.size ≤ k
        · exact e
        · have := huk k (Nat.le_refl _)
          simp [Array.getD_eq_getD_getElem?, show k < ops.size by omega] at this
      rw [List.drop_eq_nil_of_le (by simpa using hk)] at hwp
      exact hwp
  · intro i o ho hl
    have hi := (Array.getElem?_eq_some_iff.1 ho).1
    simp [Array.getD_eq_getD_getElem?, hi] at hl
  · intro j _
    by_cases hj : j < ops.size <;> simp [Array.getD_eq_getD_getElem?, hj]
  · refine ⟨(Below.refl _ w0).drew, rfl, rfl, fun _ _ => rfl, ?_⟩
    intro i o d ho _ hl _
    have hi := (Array.getElem?_eq_some_iff.1 ho).1
    simp [Array.getD_eq_getD_getElem?, hi] at hl
  · exact Nat.le_trans (List.length_filter_le _ _) (by simp)

/-- The steps of the head, one after the other. -/
def StepsTo (P : Program) (ops : Array Oper) (n : Nat) (Q : Exit → Act → World → Prop) (Φ : Facts) (a0 : Act) (w0 : World) : Nat → List Oper → Prop
  | _, [] => True
  | i, o :: r => StepTo P ops n Q Φ a0 w0 i o ∧ StepsTo P ops n Q Φ a0 w0 (i + 1) r
theorem stepsTo_get {P : Program} {ops : Array Oper} {n : Nat} {Q : Exit → Act → World → Prop} {Φ : Facts} {a0 : Act} {w0 : World} : ∀ {l : List Oper} {k : Nat}, StepsTo P ops n Q Φ a0 w0 k l → ∀ i o, l[i]? = some o → StepTo P ops n Q Φ a0 w0 (k + i) o
  | [], _, _, i, o, h => by simp at h
  | x :: r, k, hs, i, o, h => by
    cases i with
    | zero => simp at h; subst h; exact hs.1
    | succ i =>
      have := stepsTo_get hs.2 i o (by simpa using h)
      rwa [show k + 1 + i = k + (i + 1) by omega] at this
theorem steps_to {P : Program} {ops : Array Oper} {n : Nat} {Q : Exit → Act → World → Prop} {Φ : Facts} {a0 : Act} {w0 : World} (H : StepsTo P ops n Q Φ a0 w0 0 (ops.toList.take n)) : ∀ i o, ops[i]? = some o → i < n → StepTo P ops n Q Φ a0 w0 i o := by
  intro i o ho hi
  have := stepsTo_get H i o (by rw [List.getElem?_take_of_lt hi]; simpa using ho)
  rwa [Nat.zero_add] at this
theorem facts_to {ops : Array Oper} {n : Nat} {Φ : Facts} {a : Act} {w : World} (hp : ∀ i o d, ops[i]? = some o → i < n → o.dst = some d → Φ i (a.tmps.getD d undef) w) (j d : Nat) (hj : j < n) (h : dstAt ops j d = true) : Φ j (a.tmps.getD d undef) w := by
  obtain ⟨oj, h1, h2⟩ := dstAt_spec h
  exact hp j oj d h1 hj h2

/-- What a slot of the head stands for: a value, or a slice over a new row. -/
inductive Dq where
  | val (v : Value) | row (t : TypeId) (cs : Array Value) (n : Nat)
def Dq.holds (v : Value) (w : World) : Dq → Prop
  | .val u => v = u
  | .row t cs n => ∃ g, v = .slice (some ⟨g, 0, none⟩) n n ∧ w.heap[g]? = some (.cells cs t (0, 0))
theorem Dq.grow {d : Dq} {v : Value} {w w' : World} (h : d.holds v w) (hb : Below w.heap.size w w') : d.holds v w' := by
  cases d with
  | val => exact h
  | row t cs n =>
    obtain ⟨g, hv, hg⟩ := h
    exact ⟨g, hv, (hb.block g (Array.getElem?_eq_some_iff.1 hg).1).trans hg⟩
def FQ (ds : List Dq) : Facts := fun i v w => match ds[i]? with
  | some d => d.holds v w
  | none => True
theorem FQ_grow (ds : List Dq) (i : Nat) (v : Value) (w w' : World) (h : FQ ds i v w) (hb : Below w.heap.size w w') : FQ ds i v w' := by
  unfold FQ at *
  cases hd : ds[i]? with
  | none => trivial
  | some d => rw [hd] at h; exact Dq.grow h hb
theorem FQ_at {ds : List Dq} {i : Nat} {v : Value} {w : World} (d : Dq) (hd : ds[i]? = some d) (h : FQ ds i v w) : d.holds v w := by
  unfold FQ at h
  rw [hd] at h
  exact h
theorem FQ_mk {ds : List Dq} {i : Nat} {v : Value} {w : World} (d : Dq) (hd : ds[i]? = some d) (h : d.holds v w) : FQ ds i v w := by
  unfold FQ
  rw [hd]
  exact h
theorem qval_at {ops : Array Oper} {ds : List Dq} {o : Oper} {a : Act} {w : World} (hp : HP ops (FQ ds) o a w) (j d : Nat) {u : Value} (h : fromOp ops o j d = true) (hd : ds[j]? = some (.val u)) : a.tmps.getD d undef = u := FQ_at _ hd (facts_at hp j d h)
theorem qslot_of {a : Array Value} {i n : Nat} {v : Value} (hs : a.size = n) (hi : i < n) (h : a.getD i undef = v) : a[i]'(hs ▸ hi) = v := by
  subst hs
  simpa [Array.getD_eq_getD_getElem?, hi] using h
/-- The slots, one by one. -/
theorem slots_all (a : Array Value) (n : Nat) (h : a.size = n) : a = ((List.range n).map (fun i => a.getD i undef)).toArray := by
  apply Array.ext
  · simp [h]
  · intro i h1 h2
    simp [Array.getD_eq_getD_getElem?, h1]
end Go.Proofs.YtcoieohbmkjpoaaGreatDoor
namespace Go.Proofs.YtcoieohbmkjpoaaGreatDoor
open Go.RowKit

def lowerB (c : Int) : Bool := decide (97 ≤ c) && decide (c ≤ 122)
def upperB (c : Int) : Bool := decide (65 ≤ c) && decide (c ≤ 90)
def digitB (c : Int) : Bool := decide (48 ≤ c) && decide (c ≤ 57)
def wordB (c : Int) : Bool := lowerB c || upperB c || digitB c || decide (c = 95)

set_option maxHeartbeats 400000 in
theorem lower_any (c : Int) (w : World) :
    Calls Tryz.prog 72 #[.int .u8 c] w fun e w' => e = .returned (.bool (lowerB c)) ∧ w = w' := by
  by_cases h1 : 97 ≤ c <;> by_cases h2 : c ≤ 122
  all_goals
    go_enter Tryz.func72, Tryz.ntmps72
    go_wp2
    go_ret
    exact ⟨by unfold lowerB; first | (rw [decide_eq_true (by omega)]; simp; done) | (rw [decide_eq_false (by omega)]; simp; done) | (simp [h1, h2]; done) | (simp; omega), rfl⟩

set_option maxHeartbeats 400000 in
theorem upper_any (c : Int) (w : World) :
    Calls Tryz.prog 152 #[.int .u8 c] w fun e w' => e = .returned (.bool (upperB c)) ∧ w = w' := by
  by_cases h1 : 65 ≤ c <;> by_cases h2 : c ≤ 90
  all_goals
    go_enter Tryz.func152, Tryz.ntmps152
    go_wp2
    go_ret
    exact ⟨by unfold upperB; first | (rw [decide_eq_true (by omega)]; simp; done) | (rw [decide_eq_false (by omega)]; simp; done) | (simp [h1, h2]; done) | (simp; omega), rfl⟩
set_option maxHeartbeats 400000 in
theorem digit_any (c : Int) (w : World) :
    Calls Tryz.prog 153 #[.int .u8 c] w fun e w' => e = .returned (.bool (digitB c)) ∧ w = w' := by
  by_cases h1 : 48 ≤ c <;> by_cases h2 : c ≤ 57
  all_goals
    go_enter Tryz.func153, Tryz.ntmps153
    go_wp2
    go_ret
    exact ⟨by unfold digitB; first | (rw [decide_eq_true (by omega)]; simp; done) | (rw [decide_eq_false (by omega)]; simp; done) | (simp [h1, h2]; done) | (simp; omega), rfl⟩

set_option maxHeartbeats 400000 in
theorem word_any (c : Int) (w : World) :
    Calls Tryz.prog 108 #[.int .u8 c] w fun e w' => e = .returned (.bool (wordB c)) ∧ w = w' := by
  cases h1 : lowerB c <;> cases h2 : upperB c <;> cases h3 : digitB c <;> by_cases h4 : c = 95
  all_goals
    have hw : wordB c = (lowerB c || upperB c || digitB c || decide (c = 95)) := rfl
    simp only [h1, h2, h3, h4, Bool.or_true, Bool.or_false, decide_true, decide_false] at hw
    first | subst h4 | (have h5 : (c == 95) = false := by simpa using h4)
    go_enter Tryz.func108, Tryz.ntmps108
    go_wp2_with (first
      | (go_at_call 72; refine (lower_any _ _).mono ?_; rintro e w' ⟨rfl, rfl⟩)
      | (go_at_call 152; refine (upper_any _ _).mono ?_; rintro e w' ⟨rfl, rfl⟩)
      | (go_at_call 153; refine (digit_any _ _).mono ?_; rintro e w' ⟨rfl, rfl⟩))
    go_ret
    exact ⟨by rw [hw]; rfl, rfl⟩

def allB (p : Int → Bool) (s : ByteArray) : Bool := s.data.toList.all fun b => p b.toNat
theorem allB_false {p : Int → Bool} {s : ByteArray} {k : Nat} (hk : k < s.size) (h : p s[k].toNat = false) : allB p s = false := by
  unfold allB
  rw [List.all_eq_false]
  exact ⟨s[k], by rw [show s[k] = s.data.toList[k]'(by simpa using hk) from rfl]; exact List.getElem_mem _, by rw [h]; simp⟩
theorem allB_true {p : Int → Bool} {s : ByteArray} {k : Nat} (hk : ¬ k < s.size) (h : (s.data.toList.take k).all (fun b => p b.toNat) = true) : allB p s = true := by
  unfold allB
  rwa [List.take_of_length_le (by simp; omega)] at h

set_option maxHeartbeats 400000 in
/-- 'all' at the class 'word'. -/
theorem all_word (s : ByteArray) (w : World) (hs : s.size ≤ maxLen) :
    Calls Tryz.prog 107 #[.string s, .func (.func 108) #[] #[]] w fun e w' => e = .returned (.bool (allB wordB s)) ∧ w = w' := by
  unfold maxLen at hs
  go_enter Tryz.func107, Tryz.ntmps107
  go_wp2
  go_loop [5, 8] (fun _ i => ∃ k : Nat, k ≤ s.size ∧ i = .int .i64 k ∧ (s.data.toList.take k).all (fun b => wordB b.toNat) = true) (fun _ i => s.size - (intOf i).toNat)
  case atStart => exact ⟨0, Nat.zero_le _, rfl, rfl⟩
  case round =>
    obtain ⟨k, hk, rfl, hr⟩ := hrel
    by_cases hlt : k < s.size
    · have hts : s.data.toList.take (k + 1) = s.data.toList.take k ++ [s[k]] := by
        rw [List.take_succ_eq_append_getElem (by simpa using hlt)]; rfl
      have HT := Lib.hid hts; clear hts
      have HR := Lib.hid hr; clear hr
      cases hp : wordB s[k].toNat
      · have HP := Lib.hid hp
        go_wp2_with (go_at_call 108; refine (word_any _ _).mono ?_; rintro e w' ⟨rfl, rfl⟩)
        go_ret
        exact ⟨by rw [allB_false hlt HP.out]; rfl, rfl⟩
      · have HP := Lib.hid hp
        go_wp2_with (go_at_call 108; refine (word_any _ _).mono ?_; rintro e w' ⟨rfl, rfl⟩)
        go_round
        case rel => exact ⟨k + 1, by omega, by go_num, by rw [HT.out, List.all_append, HR.out]; simp [HP.out]⟩
        case measure => simp [intOf]; omega
    · have HR := Lib.hid hr; clear hr
      go_wp2
      go_ret
      exact ⟨by rw [allB_true hlt HR.out]; rfl, rfl⟩
set_option maxHeartbeats 400000 in
/-- 'all' at the class 'digit'. -/
theorem all_digit (s : ByteArray) (w : World) (hs : s.size ≤ maxLen) :
    Calls Tryz.prog 107 #[.string s, .func (.func 153) #[] #[]] w fun e w' => e = .returned (.bool (allB digitB s)) ∧ w = w' := by
  unfold maxLen at hs
  go_enter Tryz.func107, Tryz.ntmps107
  go_wp2
  go_loop [5, 8] (fun _ i => ∃ k : Nat, k ≤ s.size ∧ i = .int .i64 k ∧ (s.data.toList.take k).all (fun b => digitB b.toNat) = true) (fun _ i => s.size - (intOf i).toNat)
  case atStart => exact ⟨0, Nat.zero_le _, rfl, rfl⟩
  case round =>
    obtain ⟨k, hk, rfl, hr⟩ := hrel
    by_cases hlt : k < s.size
    · have hts : s.data.toList.take (k + 1) = s.data.toList.take k ++ [s[k]] := by
        rw [List.take_succ_eq_append_getElem (by simpa using hlt)]; rfl
      have HT := Lib.hid hts; clear hts
      have HR := Lib.hid hr; clear hr
      cases hp : digitB s[k].toNat
      · have HP := Lib.hid hp
        go_wp2_with (go_at_call 153; refine (digit_any _ _).mono ?_; rintro e w' ⟨rfl, rfl⟩)
        go_ret
        exact ⟨by rw [allB_false hlt HP.out]; rfl, rfl⟩
      · have HP := Lib.hid hp
        go_wp2_with (go_at_call 153; refine (digit_any _ _).mono ?_; rintro e w' ⟨rfl, rfl⟩)
        go_round
        case rel => exact ⟨k + 1, by omega, by go_num, by rw [HT.out, List.all_append, HR.out]; simp [HP.out]⟩
        case measure => simp [intOf]; omega
    · have HR := Lib.hid hr; clear hr
      go_wp2
      go_ret
      exact ⟨by rw [allB_true hlt HR.out]; rfl, rfl⟩
end Go.Proofs.YtcoieohbmkjpoaaGreatDoor
namespace Go.Proofs.YtcoieohbmkjpoaaGreatDoor
open Go.RowKit

def namedL (st : Int → Bool) : List UInt8 → Bool
  | [] => false
  | c :: r => st c.toNat && allB wordB ⟨(c :: r).toArray⟩
def namedB (st : Int → Bool) (s : ByteArray) : Bool := namedL st (Lib.trimLeftB s.data.toList 95)

theorem trim_size (s : ByteArray) : (Lib.trimLeftB s.data.toList 95).length ≤ s.size := by
  unfold Lib.trimLeftB
  have := List.Sublist.length_le (List.dropWhile_sublist (fun b : UInt8 => b == 95) (l := s.data.toList))
  simpa using this

set_option maxHeartbeats 400000 in
theorem named_lower (s : ByteArray) (w : World) (hs : s.size ≤ maxLen) :
    Calls Tryz.prog 71 #[.string s, .func (.func 72) #[] #[]] w fun e w' => e = .returned (.bool (namedB lowerB s)) ∧ w = w' := by
  have hl := trim_size s
  have hd : namedB lowerB s = namedL lowerB (Lib.trimLeftB s.data.toList 95) := rfl
  have HD := Lib.hid hd; clear hd
  go_enter Tryz.func71, Tryz.ntmps71
  go_wp2_with (go_at_call 106; refine (Tryz.strings_TrimLeft_one _ 95 (by decide) _).mono ?_)
  rintro e w' ⟨rfl, rfl⟩
  revert HD hl
  generalize Lib.trimLeftB s.data.toList 95 = l
  intro hl HD
  cases l with
  | nil =>
    go_wp2_with fail
    go_ret
    exact ⟨by rw [HD.out]; rfl, rfl⟩
  | cons c r =>
    have hsz : (ByteArray.mk (c :: r).toArray).size ≤ maxLen := by
      show (c :: r).toArray.size ≤ maxLen
      simp at hl ⊢; omega
    have HS := Lib.hid hsz; clear hsz
    cases hc : lowerB c.toNat
    · have HC := Lib.hid hc
      have hc2 : lowerB ((ByteArray.mk (c :: r).toArray)[0]'(by show 0 < (c :: r).toArray.size; simp)).toNat = false := hc
      clear hc
      go_wp2_with (go_at_call 72; refine (lower_any _ _).mono ?_; rintro e w'' ⟨rfl, rfl⟩)
      go_ret
      exact ⟨by rw [HD.out]; simp only [namedL, HC.out, Bool.false_and]; rfl, rfl⟩
    · have HC := Lib.hid hc
      have hc2 : lowerB ((ByteArray.mk (c :: r).toArray)[0]'(by show 0 < (c :: r).toArray.size; simp)).toNat = true := hc
      clear hc
      go_wp2_with (first | (go_at_call 72; refine (lower_any _ _).mono ?_; rintro e w'' ⟨rfl, rfl⟩) | (go_at_call 107; refine (all_word _ _ HS.out).mono ?_; rintro e w'' ⟨rfl, rfl⟩))
      go_ret
      exact ⟨by rw [HD.out]; simp only [namedL, HC.out, Bool.true_and]; rfl, rfl⟩

set_option maxHeartbeats 400000 in
theorem named_upper (s : ByteArray) (w : World) (hs : s.size ≤ maxLen) :
    Calls Tryz.prog 71 #[.string s, .func (.func 152) #[] #[]] w fun e w' => e = .returned (.bool (namedB upperB s)) ∧ w = w' := by
  have hl := trim_size s
  have hd : namedB upperB s = namedL upperB (Lib.trimLeftB s.data.toList 95) := rfl
  have HD := Lib.hid hd; clear hd
  go_enter Tryz.func71, Tryz.ntmps71
  go_wp2_with (go_at_call 106; refine (Tryz.strings_TrimLeft_one _ 95 (by decide) _).mono ?_)
  rintro e w' ⟨rfl, rfl⟩
  revert HD hl
  generalize Lib.trimLeftB s.data.toList 95 = l
  intro hl HD
  cases l with
  | nil =>
    go_wp2_with fail
    go_ret
    exact ⟨by rw [HD.out]; rfl, rfl⟩
  | cons c r =>
    have hsz : (ByteArray.mk (c :: r).toArray).size ≤ maxLen := by
      show (c :: r).toArray.size ≤ maxLen
      simp at hl ⊢; omega
    have HS := Lib.hid hsz; clear hsz
    cases hc : upperB c.toNat
    · have HC := Lib.hid hc
      have hc2 : upperB ((ByteArray.mk (c :: r).toArray)[0]'(by show 0 < (c :: r).toArray.size; simp)).toNat = false := hc
      clear hc
      go_wp2_with (go_at_call 152; refine (upper_any _ _).mono ?_; rintro e w'' ⟨rfl, rfl⟩)
      go_ret
      exact ⟨by rw [HD.out]; simp only [namedL, HC.out, Bool.false_and]; rfl, rfl⟩
    · have HC := Lib.hid hc
      have hc2 : upperB ((ByteArray.mk (c :: r).toArray)[0]'(by show 0 < (c :: r).toArray.size; simp)).toNat = true := hc
      clear hc
      go_wp2_with (first | (go_at_call 152; refine (upper_any _ _).mono ?_; rintro e w'' ⟨rfl, rfl⟩) | (go_at_call 107; refine (all_word _ _ HS.out).mono ?_; rintro e w'' ⟨rfl, rfl⟩))
      go_ret
      exact ⟨by rw [HD.out]; simp only [namedL, HC.out, Bool.true_and]; rfl, rfl⟩

def symbolB (s : ByteArray) : Bool := decide (s.size ≤ 32) && !(s.toList == [110, 111, 116]) && namedB lowerB s
def variableB (s : ByteArray) : Bool := decide (s.size ≤ 32) && (namedB upperB s || (Lib.hasPrefix s.data.toList [95] && allB digitB ⟨(Lib.trimPrefix s.data.toList [95]).toArray⟩))

set_option maxHeartbeats 400000 in
theorem anonymous_any (s : ByteArray) (w : World) (hs : s.size ≤ maxLen) :
    Calls Tryz.prog 173 #[.string s] w fun e w' => e = .returned (.bool (Lib.hasPrefix s.data.toList [95] && allB digitB ⟨(Lib.trimPrefix s.data.toList [95]).toArray⟩)) ∧ w = w' := by
  have hl : (ByteArray.mk (Lib.trimPrefix s.data.toList [95]).toArray).size ≤ maxLen := by
    show (Lib.trimPrefix s.data.toList [95]).toArray.size ≤ maxLen
    have h1 : (Lib.trimPrefix s.data.toList [95]).length ≤ s.size := by
      unfold Lib.trimPrefix; split <;> simp
    simp; omega
  have HL := Lib.hid hl; clear hl
  cases hp : Lib.hasPrefix s.data.toList [95]
  · go_enter Tryz.func173, Tryz.ntmps173
    go_wp2_with (go_at_call 187; refine (Tryz.strings_CutPrefix _ _ _).mono ?_; rintro e w' ⟨rfl, rfl⟩)
    go_ret
    exact ⟨by simp, rfl⟩
  · go_enter Tryz.func173, Tryz.ntmps173
    go_wp2_with (first | (go_at_call 187; refine (Tryz.strings_CutPrefix _ _ _).mono ?_; rintro e w' ⟨rfl, rfl⟩) | (go_at_call 107; refine (all_digit _ _ HL.out).mono ?_; rintro e w'' ⟨rfl, rfl⟩))
    go_ret
    exact ⟨by simp, rfl⟩

set_option maxHeartbeats 400000 in
theorem symbol_any (s : ByteArray) (w : World) (hs : s.size ≤ maxLen) :
    Calls Tryz.prog 38 #[.string s] w fun e w' => e = .returned (.bool (symbolB s)) ∧ w = w' := by
  have hd : symbolB s = (decide (s.size ≤ 32) && !(s.toList == [110, 111, 116]) && namedB lowerB s) := rfl
  have HD := Lib.hid hd; clear hd
  by_cases h1 : s.size ≤ 32 <;> cases h2 : (s.toList == [110, 111, 116])
  all_goals
    have H1 := Lib.hid h1
    have H2 := Lib.hid h2
    go_enter Tryz.func38, Tryz.ntmps38
    go_wp2_with (go_at_call 71; refine (named_lower _ _ hs).mono ?_; rintro e w' ⟨rfl, rfl⟩)
    go_ret
    exact ⟨by rw [HD.out, H2.out]; simp [H1.out], rfl⟩

set_option maxHeartbeats 400000 in
theorem variable_any (s : ByteArray) (w : World) (hs : s.size ≤ maxLen) :
    Calls Tryz.prog 143 #[.string s] w fun e w' => e = .returned (.bool (variableB s)) ∧ w = w' := by
  have hd : variableB s = (decide (s.size ≤ 32) && (namedB upperB s || (Lib.hasPrefix s.data.toList [95] && allB digitB ⟨(Lib.trimPrefix s.data.toList [95]).toArray⟩))) := rfl
  have HD := Lib.hid hd; clear hd
  by_cases h1 : s.size ≤ 32 <;> cases h2 : namedB upperB s
  all_goals
    have H1 := Lib.hid h1
    have H2 := Lib.hid h2
    go_enter Tryz.func143, Tryz.ntmps143
    go_wp2_with (first | (go_at_call 71; refine (named_upper _ _ hs).mono ?_; rintro e w' ⟨rfl, rfl⟩) | (go_at_call 173; refine (anonymous_any _ _ hs).mono ?_; rintro e w' ⟨rfl, rfl⟩))
    go_ret
    exact ⟨by rw [HD.out, H2.out]; simp [H1.out], rfl⟩

end Go.Proofs.YtcoieohbmkjpoaaGreatDoor
namespace Go.Proofs.YtcoieohbmkjpoaaGreatDoor
open Go.RowKit

/-- Blocks of cells of other types than a builder's and its buffer's stay as they are. -/
def KeepT (w w' : World) : Prop := ∀ (k : Nat) (cs : Array Value) (T : TypeId) (fr : Nat × Nat), T ≠ 5 → T ≠ 127 → w.heap[k]? = some (.cells cs T fr) → w'.heap[k]? = some (.cells cs T fr)
theorem KeepT.refl (w : World) : KeepT w w := fun _ _ _ _ _ _ h => h
theorem KeepT.trans {a b c : World} (h : KeepT a b) (k : KeepT b c) : KeepT a c := fun i cs T fr h1 h2 hh => k i cs T fr h1 h2 (h i cs T fr h1 h2 hh)
theorem KeepT.alloc {a w : World} (h : KeepT a w) (o : Obj) : KeepT a (w.alloc o) :=
  h.trans fun _ _ _ _ _ _ hh => (Below.heap_alloc _ _ _ (Array.getElem?_eq_some_iff.1 hh).1).trans hh
theorem KeepT.setCell {a w : World} (h : KeepT a w) {b : Nat} {cs : Array Value} {fr : Nat × Nat} (hb : w.heap[b]? = some (.cells cs 127 fr)) (o : Nat) (u : Value) : KeepT a (w.setCell ⟨b, o, none⟩ u) :=
  h.trans fun k cs' T fr' _ h2 hh => by
    rw [Below.heap_setCell _ _ _ _ (fun e => by rw [show k = b from e, hb] at hh; simp only [Option.some.injEq, Obj.cells.injEq] at hh; exact h2 hh.2.1.symm)]; exact hh
theorem KeepT.grown {a w w' : World} (h : KeepT a w) {B : Nat} {v : Value} {n : Nat} {xs : List Value} (hown : w.ownsRow B 5 1 v n xs) (hg : w.grownBy w' v.ownBlock) : KeepT a w' :=
  h.trans fun k cs T fr h1 _ hh => by
    rw [hg.block k (Array.getElem?_eq_some_iff.1 hh).1 ?_]
    · exact hh
    · intro e
      exact Lib.ownBlock_ne hown hh h1 e.symm
theorem KeepT.drew {a w : World} (h : KeepT a w) : KeepT a w.drew := h

theorem infoB : (Tryz.prog.info? 127).map (·.size) = some 2 := by kernel_rfl

set_option maxHeartbeats 400000 in
theorem copyCheck_used (b : Nat) (w : World) (h0 : w.cell? ⟨b, 0, none⟩ = some (.pointer (some ⟨b, 0, none⟩))) :
    Calls Tryz.prog 157 #[.pointer (some ⟨b, 0, none⟩)] w fun e w' => e = .returned (.tuple #[]) ∧ w = w' := by
  obtain ⟨j, hj, hjs⟩ := Option.map_eq_some_iff.1 infoB
  have hrun := Lib.run_neq_ptr_same (P := Tryz.prog) w ⟨b, 0, none⟩ Tryz.underlying124 hj
  clear hj hjs
  go_enter Tryz.func157, Tryz.ntmps157
  go_wp2
  go_end0
  exact ⟨rfl, rfl⟩

set_option maxHeartbeats 400000 in
theorem copyCheck_fresh (b : Nat) (w : World) (h0 : w.cell? ⟨b, 0, none⟩ = some (.pointer none)) (hsh : w.shape? b = some (127, 2)) (hfz : w.frozen? ⟨b, 0, none⟩ = false) :
    Calls Tryz.prog 157 #[.pointer (some ⟨b, 0, none⟩)] w fun e w' => e = .returned (.tuple #[]) ∧ w' = w.setCell ⟨b, 0, none⟩ (.pointer (some ⟨b, 0, none⟩)) := by
  obtain ⟨j, hj, hjs⟩ := Option.map_eq_some_iff.1 infoB
  have hto := Lib.run_to_unsafe (P := Tryz.prog) w ⟨b, 0, none⟩ Tryz.underlying124 Tryz.underlying133 hj (by rw [hjs]; decide) hsh (Nat.zero_lt_succ 1)
  have hfrom := Lib.run_from_unsafe (P := Tryz.prog) w ⟨b, 0, none⟩ Tryz.underlying133 Tryz.underlying124 hj hsh (by kernel_rfl)
  have hext := fun (args : Array Value) (w : World) => run_callFunc_extern (P := Tryz.prog) (w := w) (args := args) Tryz.func178 (by kernel_rfl) (by kernel_rfl) (by kernel_rfl) (e := Extern.AbiNoEscape.same) (by kernel_rfl)
  have hne := fun (x : Value) (w : World) => Lib.run_noEscape (P := Tryz.prog) w x
  go_enter Tryz.func157, Tryz.ntmps157
  go_wp2
  go_end0
  exact ⟨rfl, rfl⟩

theorem copyCheck_any (B b : Nat) (bs : List Value) (w : World) (h : Lib.IsBuilder 127 5 B b bs w) :
    Calls Tryz.prog 157 #[.pointer (some ⟨b, 0, none⟩)] w fun e w' => e = .returned (.tuple #[]) ∧ Lib.BuilderAt 127 5 B b (.pointer (some ⟨b, 0, none⟩)) bs w' ∧ Below B w w' ∧ KeepT w w' := by
  rcases h with h | h
  · refine (copyCheck_fresh b w h.cell0 h.shape h.frozen0).mono ?_
    rintro e w' ⟨rfl, rfl⟩
    have hB := h.1
    have hu := h.used (.pointer (some ⟨b, 0, none⟩))
    obtain ⟨_, v, hb, _⟩ := h
    exact ⟨rfl, hu, (Below.refl B w).setCell (p := ⟨b, 0, none⟩) hB _, (KeepT.refl w).setCell hb 0 _⟩
  · refine (copyCheck_used b w h.cell0).mono ?_
    rintro e w' ⟨rfl, rfl⟩
    exact ⟨rfl, h, Below.refl B _, KeepT.refl _⟩

theorem infoU8 : (Tryz.prog.info? 5).map (fun i => (i.zero, i.size, i.bytes)) = some (some (.int .u8 0), 1, 1) := by kernel_rfl

set_option maxHeartbeats 1000000 in
theorem writeString_any (B b : Nat) (bs : List Value) (s : ByteArray) (w : World) (h : Lib.IsBuilder 127 5 B b bs w) (hlen : bs.length + s.size ≤ 140737488355328) (hBw : B ≤ w.heap.size) :
    Calls Tryz.prog 116 #[.pointer (some ⟨b, 0, none⟩), .string s] w fun e w' => e = .returned (.tuple #[.int .i64 s.size, .nilIface]) ∧
      Lib.IsBuilder 127 5 B b (bs ++ Lib.strCells s) w' ∧ Below B w w' ∧ KeepT w w' := by
  obtain ⟨i0, hi, hz0, hz1, hz2⟩ := info_parts infoU8
  go_enter Tryz.func116, Tryz.ntmps116
  go_wp2_with (go_at_call 157; refine (copyCheck_any B b bs _ h).mono ?_)
  rintro e w1 ⟨rfl, h1, hb1, hkt1⟩
  obtain ⟨hB, v, hbk, hown, hne⟩ := h1
  have c0 : w1.cell? ⟨b, 0, none⟩ = some (.pointer (some ⟨b, 0, none⟩)) := by rw [Lib.cell_of_heap hbk]; rfl
  have c1 : w1.cell? ⟨b, 1, none⟩ = some v := by rw [Lib.cell_of_heap hbk]; rfl
  go_wp2_with (at_builtin; refine Lib.wpList_append_own_string _ rfl _ _ 125 9 rfl B 5 i0 Tryz.underlying125 Tryz.underlying9 hi hz0 hz1 hz2 _ _ _ rfl hown s rfl ?c3 ?c4 ?c5 ?_)
  case c3 => unfold maxLen; omega
  case c4 => omega
  case c5 => have := hb1.size; omega
  intro v' w2 hown' hgrow _
  have hlt : b < w1.heap.size := by
    rcases Nat.lt_or_ge b w1.heap.size with h' | h'
    · exact h'
    · simp [Array.getElem?_eq_none h'] at hbk
  have hb2 : w2.heap[b]? = some (.cells #[.pointer (some ⟨b, 0, none⟩), v] 127 (0, 0)) := by
    rw [hgrow.block b hlt (fun e => hne e.symm)]
    exact hbk
  have d0 : w2.cell? ⟨b, 0, none⟩ = some (.pointer (some ⟨b, 0, none⟩)) := by rw [Lib.cell_of_heap hb2]; rfl
  have d1 : w2.cell? ⟨b, 1, none⟩ = some v := by rw [Lib.cell_of_heap hb2]; rfl
  have f1 : w2.frozen? ⟨b, 1, none⟩ = false := Lib.frozen_of_heap hb2 1
  obtain ⟨ao, n', cap, rfl⟩ : ∃ ao n' cap, v' = .slice ao n' cap := by
    rcases hown'.2 with ⟨hv, _⟩ | ⟨g, cap, cur, hv, _⟩
    · exact ⟨_, _, _, hv⟩
    · exact ⟨_, _, _, hv⟩
  go_wp2
  go_ret2
  refine ⟨rfl, Or.inr ?_, ?_, ?_⟩
  · exact Lib.BuilderAt.put (T := 127) (e := 5) hB hb2 (bs' := bs ++ Lib.strCells s) (by simpa [Lib.strCells_length] using hown') (by decide)
  · exact (hb1.grown hgrow (by have := hb1.size; omega) (fun k hk => (hown.lt k hk).1)).setCell (p := ⟨b, 1, none⟩) hB _
  · exact (hkt1.grown hown hgrow).setCell hb2 1 _
end Go.Proofs.YtcoieohbmkjpoaaGreatDoor
namespace Go.Proofs.YtcoieohbmkjpoaaGreatDoor
open Go.RowKit

def strengthI (k : Int) (s : ByteArray) (m : Nat) : Int := if k = 6 then 0 else if m = 1 then 3 else if s.toList == [43] || s.toList == [45] then 1 else 2
def Tm.strength (t : Tm) : Int := strengthI t.kind t.name t.args.length

set_option maxHeartbeats 1000000 in
theorem strength_any (k n : Int) (s : ByteArray) (a : Option Addr) (m cap : Nat) (w : World) :
    Calls Tryz.prog 180 #[.agg #[.int .u8 k, .int .i64 n, .string s, .slice a m cap]] w fun e w' => e = .returned (.int .i64 (strengthI k s m)) ∧ w' = w.alloc (.cells #[.int .u8 k, .int .i64 n, .string s, .slice a m cap] 46) := by
  have hr : strengthI k s m = if k = 6 then 0 else if m = 1 then 3 else if s.toList == [43] || s.toList == [45] then 1 else 2 := rfl
  have HR := Lib.hid hr; clear hr
  by_cases h1 : k = 6 <;> by_cases h2 : m = 1 <;> cases h3 : s.toList == [43] <;> cases h4 : s.toList == [45]
  all_goals
    have H1 := Lib.hid h1
    have H2 := Lib.hid h2
    have H3 := Lib.hid h3
    have H4 := Lib.hid h4
    first | subst h1 | (have h5 : (k == 6) = false := by simpa using h1)
    first | subst h2 | (have h6 : ((m : Int) == 1) = false := by rw [beq_eq_false_iff_ne]; omega)
    go_enter Tryz.func180, Tryz.ntmps180
    go_wp2
    go_ret
    exact ⟨by rw [HR.out]; simp [H1.out, H2.out, H3.out, H4.out], rfl⟩

def enclosedB (outer : Int) (i : Nat) (a : Tm) : Bool :=
  if a.kind = 6 then true else if a.kind = 1 then outer == 3
  else if a.kind = 5 then a.strength != 3 && (decide (a.strength < outer) || (a.strength == outer && decide (i = 1)))
  else false

theorem encl6 (o n : Int) (i : Nat) (s : ByteArray) (us : List Tm) : enclosedB o i (.mk 6 n s us) = true := rfl
theorem encl1 (o n : Int) (i : Nat) (s : ByteArray) (us : List Tm) : enclosedB o i (.mk 1 n s us) = (o == 3) := rfl
theorem encl5 (o n : Int) (i : Nat) (s : ByteArray) (us : List Tm) : enclosedB o i (.mk 5 n s us) = (strengthI 5 s us.length != 3 && (decide (strengthI 5 s us.length < o) || (strengthI 5 s us.length == o && decide (i = 1)))) := rfl
theorem encl0 (o k n : Int) (i : Nat) (s : ByteArray) (us : List Tm) (h6 : k ≠ 6) (h1 : k ≠ 1) (h5 : k ≠ 5) : enclosedB o i (.mk k n s us) = false := by
  show (if k = 6 then true else if k = 1 then o == 3 else if k = 5 then _ else false) = false
  rw [if_neg h6, if_neg h1, if_neg h5]

set_option maxRecDepth 100000 in
set_option maxHeartbeats 2000000 in
theorem enclosed_any (B : Nat) (k n : Int) (s : ByteArray) (us : List Tm) (i : Nat) (hi : i < us.length) (c0 c1 c2 c3 : Value) (w : World) (ht : IsTm B w c0 c1 c2 c3 (.mk k n s us)) (hB : B ≤ w.heap.size) :
    Calls Tryz.prog 159 #[.agg #[c0, c1, c2, c3], .int .i64 i] w fun e w' => e = .returned (.bool (enclosedB (strengthI k s us.length) i us[i])) ∧ Below w.heap.size w w' := by
  simp only [IsTm] at ht
  obtain ⟨rfl, hk, rfl, hnn, rfl, hs, a, cap, rfl, hl, hargs⟩ := ht
  unfold maxLen at hl
  obtain ⟨b, off, rfl, hb, hI⟩ := hargs (by intro e; rw [e] at hi; simp at hi)
  obtain ⟨d0, d1, d2, d3, e0, e1, e2, e3, hc4⟩ := hI.at i hi
  obtain ⟨k', n', s', us', hq⟩ : ∃ k' n' s' us', us[i] = .mk k' n' s' us' := by cases us[i]; exact ⟨_, _, _, _, rfl⟩
  rw [hq] at hc4 ⊢
  simp only [IsTm] at hc4
  obtain ⟨rfl, _, rfl, _, rfl, _, a', cap', rfl, _, _⟩ := hc4
  have hlt : b < w.heap.size := by omega
  have hlt2 : b < w.heap.size + 1 := by omega
  have hlt3 : b < w.heap.size + 1 + 1 := by omega
  have hlt4 : b < w.heap.size + 1 + 1 + 1 := by omega
  have hii : (0 : Int) ≤ (i : Int) := by omega
  have hil : (i : Int) < (us.length : Int) := by omega
  clear hq hI hargs
  have hx := World.alloc_heap_new w (.cells #[.int .u8 k, .int .i64 n, .string s, .slice (some ⟨b, off, none⟩) us.length cap] 46)
  have f0 := (Below.cell ((Below.refl _ w).alloc (Nat.le_refl _) (.cells #[.int .u8 k, .int .i64 n, .string s, .slice (some ⟨b, off, none⟩) us.length cap] 46)) (p := ⟨b, off + i * 4, none⟩) hlt).trans e0
  have f1 := (Below.cell ((Below.refl _ w).alloc (Nat.le_refl _) (.cells #[.int .u8 k, .int .i64 n, .string s, .slice (some ⟨b, off, none⟩) us.length cap] 46)) (p := ⟨b, off + i * 4 + 1, none⟩) hlt).trans e1
  have f2 := (Below.cell ((Below.refl _ w).alloc (Nat.le_refl _) (.cells #[.int .u8 k, .int .i64 n, .string s, .slice (some ⟨b, off, none⟩) us.length cap] 46)) (p := ⟨b, off + i * 4 + 2, none⟩) hlt).trans e2
  have f3 := (Below.cell ((Below.refl _ w).alloc (Nat.le_refl _) (.cells #[.int .u8 k, .int .i64 n, .string s, .slice (some ⟨b, off, none⟩) us.length cap] 46)) (p := ⟨b, off + i * 4 + 3, none⟩) hlt).trans e3
  have hBe : Below w.heap.size w (w.alloc (.cells #[.int .u8 k, .int .i64 n, .string s, .slice (some ⟨b, off, none⟩) us.length cap] 46)) := (Below.refl _ w).alloc (Nat.le_refl _) _
  have hz : (w.alloc (.cells #[.int .u8 k, .int .i64 n, .string s, .slice (some ⟨b, off, none⟩) us.length cap] 46)).heap.size = w.heap.size + 1 := by simp
  go_enter Tryz.func159, Tryz.ntmps159
  go_wp2_with fail
  revert hx f0 f1 f2 f3 hBe hz
  generalize w.alloc (.cells #[.int .u8 k, .int .i64 n, .string s, .slice (some ⟨b, off, none⟩) us.length cap] 46) = W1
  intro hx f0 f1 f2 f3 hBe hz
  have x0 := cells_at hx 0 _ rfl
  have x1 := cells_at hx 1 _ rfl
  have x2 := cells_at hx 2 _ rfl
  have x3 := cells_at hx 3 _ rfl
  have HZ := Lib.hid hz
  have HBe := Lib.hid hBe
  clear hx hz hBe e0 e1 e2 e3 hlt2 hlt3 hlt4
  go_cut [5, 6] (fun s5 s6 wx => ∃ g : Nat, s5 = .pointer (some ⟨g, 0, none⟩) ∧ s6 = .int .i64 (strengthI k s us.length) ∧ wx.heap[g]? = some (.cells #[.int .u8 k', .int .i64 n', .string s', .slice a' us'.length cap'] 46 (0, 0)) ∧ Below w.heap.size w wx)
  case first =>
    go_region_held3 (fun w' => w'.cell? ⟨w.heap.size, 0, none⟩ = some (.int .u8 k) ∧ w'.cell? ⟨w.heap.size, 1, none⟩ = some (.int .i64 n) ∧ w'.cell? ⟨w.heap.size, 2, none⟩ = some (.string s) ∧ w'.cell? ⟨w.heap.size, 3, none⟩ = some (.slice (some ⟨b, off, none⟩) us.length cap) ∧
      w'.cell? ⟨b, off + i * 4, none⟩ = some (.int .u8 k') ∧ w'.cell? ⟨b, off + i * 4 + 1, none⟩ = some (.int .i64 n') ∧ w'.cell? ⟨b, off + i * 4 + 2, none⟩ = some (.string s') ∧ w'.cell? ⟨b, off + i * 4 + 3, none⟩ = some (.slice a' us'.length cap')) (go_keep)
      (first | (go_at_call 180; refine (strength_any _ _ _ _ _ _ _).mono ?_; rintro e w' ⟨rfl, rfl⟩))
    all_goals
      go_wp2_with fail
      go_meet
      first
        | (refine ⟨W1.heap.size + 1, rfl, rfl, ?_, ?_⟩
           · have := World.alloc_heap_new (W1.alloc (.cells #[.int .u8 k, .int .i64 n, .string s, .slice (some ⟨b, off, none⟩) us.length cap] 46)) (.cells #[.int .u8 k', .int .i64 n', .string s', .slice a' us'.length cap'] 46)
             rw [World.size_alloc] at this; exact this
           · exact (((HBe.out.alloc (by rw [HZ.out]; omega) _).alloc (by rw [World.size_alloc, HZ.out]; omega) _).drew))
        | (refine ⟨W1.heap.size, rfl, rfl, ?_, ?_⟩
           · exact (Below.heap_alloc (W1.alloc (.cells #[.int .u8 k', .int .i64 n', .string s', .slice a' us'.length cap'] 46)) _ _ (by simp)).trans (World.alloc_heap_new W1 (.cells #[.int .u8 k', .int .i64 n', .string s', .slice a' us'.length cap'] 46))
           · exact (((HBe.out.alloc (by rw [HZ.out]; omega) _).alloc (by rw [World.size_alloc, HZ.out]; omega) _).drew))
  case rest =>
    obtain ⟨g, rfl, rfl, hg, hBw⟩ := hcut
    have y0 := cells_at hg 0 _ rfl
    have y1 := cells_at hg 1 _ rfl
    have y2 := cells_at hg 2 _ rfl
    have y3 := cells_at hg 3 _ rfl
    have hglt : g < wc.heap.size := (Array.getElem?_eq_some_iff.1 hg).1
    clear hg x0 x1 x2 x3 f0 f1 f2 f3
    have hcs : k' = 6 ∨ k' = 1 ∨ k' = 5 ∨ (k' ≠ 6 ∧ k' ≠ 1 ∧ k' ≠ 5) := by omega
    rcases hcs with rfl | rfl | rfl | ⟨e6, e1, e5⟩
    · go_wp2
      go_ret
      exact ⟨by rw [encl6]; rfl, hBw⟩
    · go_wp2
      go_ret
      exact ⟨by rw [encl1]; rfl, hBw⟩
    · have hST := strength_any 5 n' s' a' us'.length cap' wc
      have HST := Lib.hid hST; clear hST
      have HBw := Lib.hid (hBw.alloc (by have := hBw.size; omega) (.cells #[.int .u8 5, .int .i64 n', .string s', .slice a' us'.length cap'] 46))
      cases h1 : (strengthI 5 s' us'.length != 3)
      · have H1 := Lib.hid h1
        go_wp2_with (go_at_call 180; refine HST.out.mono ?_; rintro e w' ⟨rfl, rfl⟩)
        go_ret
        exact ⟨by rw [encl5, H1.out]; rfl, HBw.out⟩
      · have H1 := Lib.hid h1
        by_cases h2 : strengthI 5 s' us'.length < strengthI k s us.length
        · have H2 := Lib.hid (decide_eq_true h2)
          go_wp2_with (go_at_call 180; refine HST.out.mono ?_; rintro e w' ⟨rfl, rfl⟩)
          go_ret
          exact ⟨by rw [encl5, H1.out, H2.out]; rfl, HBw.out⟩
        · have H2 := Lib.hid (decide_eq_false h2)
          cases h3 : (strengthI 5 s' us'.length == strengthI k s us.length)
          · have H3 := Lib.hid h3
            go_wp2_with (go_at_call 180; refine HST.out.mono ?_; rintro e w' ⟨rfl, rfl⟩)
            go_ret
            exact ⟨by rw [encl5, H1.out, H2.out, H3.out]; rfl, HBw.out⟩
          · have H3 := Lib.hid h3
            by_cases h4 : i = 1
            · subst h4
              go_wp2_with (go_at_call 180; refine HST.out.mono ?_; rintro e w' ⟨rfl, rfl⟩)
              go_ret
              exact ⟨by rw [encl5, H1.out, H2.out, H3.out]; rfl, HBw.out⟩
            · have H4 := Lib.hid (decide_eq_false h4)
              have h5 : ((i : Int) == 1) = false := by rw [beq_eq_false_iff_ne]; omega
              go_wp2_with (go_at_call 180; refine HST.out.mono ?_; rintro e w' ⟨rfl, rfl⟩)
              go_ret
              exact ⟨by rw [encl5, H1.out, H2.out, H3.out, H4.out]; rfl, HBw.out⟩
    · have H6 := Lib.hid e6
      have H1 := Lib.hid e1
      have H5 := Lib.hid e5
      have g6 : (k' == 6) = false := by simpa using e6
      have g1 : (k' == 1) = false := by simpa using e1
      have g5 : (k' == 5) = false := by simpa using e5
      clear e6 e1 e5
      go_wp2
      go_ret
      exact ⟨by rw [encl0 _ _ _ _ _ _ H6.out H1.out H5.out]; rfl, hBw⟩
end Go.Proofs.YtcoieohbmkjpoaaGreatDoor
namespace Go.Proofs.YtcoieohbmkjpoaaGreatDoor
open Go.RowKit

mutual
def Tm.text : Tm → List UInt8
  | .mk k n s us =>
    if k = 1 then Lib.itoa n
    else if k = 4 then s.data.toList ++ (Tm.textF 40 us ++ [41])
    else if k = 5 then Tm.textO (strengthI 5 s us.length) us.length s.data.toList 0 us
    else if k = 6 then Tm.textO (strengthI 6 s us.length) us.length [46, 46] 0 us
    else s.data.toList
def Tm.textF (sep : UInt8) : List Tm → List UInt8
  | [] => []
  | t :: ts => sep :: (Tm.text t ++ Tm.textF 44 ts)
def Tm.textO (o : Int) (len : Nat) (sign : List UInt8) (i : Nat) : List Tm → List UInt8
  | [] => []
  | t :: ts => (if i + 1 = len then sign else []) ++ ((if enclosedB o i t then 40 :: (Tm.text t ++ [41]) else Tm.text t) ++ Tm.textO o len sign (i + 1) ts)
end

abbrev Bld (B b : Nat) (acc : List UInt8) (w : World) : Prop := Lib.IsBuilder 127 5 B b (Lib.byteCells acc) w

theorem grown_of_below {w w' : World} (h : Below w.heap.size w w') : w.grownBy w' none := ⟨h.os, h.tape, h.output, h.size, fun k hk _ => h.block k hk⟩
theorem BuilderAt.below {B b : Nat} {p : Value} {bs : List Value} {w w' : World} (h : Lib.BuilderAt 127 5 B b p bs w) (hb : Below w.heap.size w w') : Lib.BuilderAt 127 5 B b p bs w' := by
  have hlt := h.lt
  obtain ⟨hB, v, hbk, hown, hne⟩ := h
  exact ⟨hB, v, (hb.block b hlt).trans hbk, hown.kept (row := some b) ⟨hb.os, hb.tape, hb.output, hb.size, fun k hk _ => hb.block k hk⟩ (Or.inr hne), hne⟩
theorem Bld.below {B b : Nat} {acc : List UInt8} {w w' : World} (h : Bld B b acc w) (hb : Below w.heap.size w w') : Bld B b acc w' := by
  rcases h with h | h
  · exact Or.inl (BuilderAt.below h hb)
  · exact Or.inr (BuilderAt.below h hb)
theorem KeepT.below {w w' : World} (hb : Below w.heap.size w w') : KeepT w w' := fun k _ _ _ _ _ h => (hb.block k (Array.getElem?_eq_some_iff.1 h).1).trans h

theorem byteCells_append (a b : List UInt8) : Lib.byteCells (a ++ b) = Lib.byteCells a ++ Lib.byteCells b := by simp [Lib.byteCells]

/-- WriteString, said of bytes. -/
theorem put_any (B b : Nat) (acc : List UInt8) (s : ByteArray) (w : World) (h : Bld B b acc w) (hlen : acc.length + s.size ≤ 140737488355328) (hBw : B ≤ w.heap.size) :
    Calls Tryz.prog 116 #[.pointer (some ⟨b, 0, none⟩), .string s] w fun e w' => e = .returned (.tuple #[.int .i64 s.size, .nilIface]) ∧ Bld B b (acc ++ s.data.toList) w' ∧ Below B w w' ∧ KeepT w w' :=
  (writeString_any B b _ s w h (by simpa [Lib.byteCells_length] using hlen) hBw).mono fun e w' ⟨h1, h2, h3, h4⟩ => ⟨h1, by unfold Bld; rw [byteCells_append]; exact h2, h3, h4⟩

def WrAt (t : Tm) : Prop := ∀ (B b : Nat) (acc : List UInt8) (c0 c1 c2 c3 : Value) (w : World), IsTm B w c0 c1 c2 c3 t → Bld B b acc w → acc.length + t.text.length ≤ 140737488355328 → B ≤ w.heap.size →
  3 < B → Lib.TabIs Tryz.prog w "internal/strconv.uint64pow10" .u64 Lib.pow10Tab →
  Calls Tryz.prog 91 #[.pointer (some ⟨b, 0, none⟩), .agg #[c0, c1, c2, c3]] w fun e w' => e = .returned (.tuple #[]) ∧ Bld B b (acc ++ t.text) w' ∧ Below B w w' ∧ KeepT w w'

theorem tab_below {B : Nat} {w w' : World} (h : Below B w w') (hB : 3 < B) (ht : Lib.TabIs Tryz.prog w "internal/strconv.uint64pow10" .u64 Lib.pow10Tab) : Lib.TabIs Tryz.prog w' "internal/strconv.uint64pow10" .u64 Lib.pow10Tab :=
  var?_below h (by kernel_rfl) hB ht

set_option maxRecDepth 100000 in
set_option maxHeartbeats 2000000 in
theorem writeFunction_any (k n : Int) (s : ByteArray) (us : List Tm) (ih : ∀ t ∈ us, WrAt t) (B b : Nat) (bs : List UInt8) (c0 c1 c2 c3 : Value) (w : World) (ht : IsTm B w c0 c1 c2 c3 (.mk k n s us)) (hb : Bld B b bs w)
    (hlen : bs.length + (s.data.toList ++ (Tm.textF 40 us ++ [41])).length ≤ 140737488355328) (hBw : B ≤ w.heap.size) (hgB : 3 < B) (htab : Lib.TabIs Tryz.prog w "internal/strconv.uint64pow10" .u64 Lib.pow10Tab) :
    Calls Tryz.prog 118 #[.pointer (some ⟨b, 0, none⟩), .agg #[c0, c1, c2, c3]] w fun e w' => e = .returned (.tuple #[]) ∧ Bld B b (bs ++ (s.data.toList ++ (Tm.textF 40 us ++ [41]))) w' ∧ Below B w w' ∧ KeepT w w' := by
  simp only [IsTm] at ht
  obtain ⟨rfl, hk, rfl, hnn, rfl, hs, a, cap, rfl, hl, hargs⟩ := ht
  have HA := Lib.hid hargs; clear hargs
  have IH := Lib.hid ih; clear ih
  have HT := Lib.hid htab; clear htab
  have HL := Lib.hid hlen; clear hlen
  have HM := Lib.hid hl
  unfold maxLen at hl
  have hx := World.alloc_heap_new w (.cells #[.int .u8 k, .int .i64 n, .string s, .slice a us.length cap] 46)
  have hBe : Below w.heap.size w (w.alloc (.cells #[.int .u8 k, .int .i64 n, .string s, .slice a us.length cap] 46)) := (Below.refl _ w).alloc (Nat.le_refl _) _
  have hp := put_any B b bs s _ (hb.below hBe) (by have := HL.out; simp only [List.length_append] at this; simp at this ⊢; omega) (by have := hBe.size; omega)
  have HP := Lib.hid hp
  have HX := Lib.hid hx
  clear hp hx
  go_enter Tryz.func118, Tryz.ntmps118
  go_wp2_with (go_at_call 116; refine HP.out.mono ?_)
  clear HP
  rintro e w1 ⟨rfl, hb1, hB1, hK1⟩
  have hBw1 : Below B w w1 := (hBe.mono hBw).trans hB1
  have hKw1 : KeepT w w1 := (KeepT.below hBe).trans hK1
  have hx1 := hK1 _ _ _ _ (by decide) (by decide) HX.out
  have x3 := cells_at hx1 3 _ rfl
  clear HX hb
  have HB1 := Lib.hid hb1; clear hb1
  have HK1 := Lib.hid hKw1; clear hKw1
  clear hK1 hB1 hBe hx1
  go_wp2_with fail
  go_loopw [4, 6, 14] (fun sp _ i wr => ∃ (j : Nat) (sep : UInt8) (acc : List UInt8), j ≤ us.length ∧ i = .int .i64 j ∧ sp = .string ⟨#[sep]⟩ ∧ Hid (acc ++ Tm.textF sep (us.drop j) = bs ++ (s.data.toList ++ Tm.textF 40 us)) ∧
      Hid (Bld B b acc wr) ∧ Below B w wr ∧ Hid (KeepT w wr)) (fun _ _ i _ => us.length - (intOf i).toNat)
  case atStart => exact ⟨0, 40, bs ++ s.data.toList, Nat.zero_le _, rfl, rfl, by show _ = _; simp, HB1, hBw1, HK1⟩
  case round =>
    obtain ⟨j, sep, acc, hj, rfl, rfl, HE, HB, hBr, HK⟩ := hrel
    have hsz := hBr.size
    have HTr := Lib.hid (tab_below hBr hgB HT.out)
    by_cases hlt : j < us.length
    · obtain ⟨b1, off, rfl, hb1, hI1⟩ := HA.out (by intro e; rw [e] at hlt; simp at hlt)
      obtain ⟨d0, d1, d2, d3, e0, e1, e2, e3, hc4⟩ := hI1.at j hlt
      have g0 := (hBr.cell (p := ⟨b1, off + j * 4, none⟩) hb1).trans e0
      have g1 := (hBr.cell (p := ⟨b1, off + j * 4 + 1, none⟩) hb1).trans e1
      have g2 := (hBr.cell (p := ⟨b1, off + j * 4 + 2, none⟩) hb1).trans e2
      have g3 := (hBr.cell (p := ⟨b1, off + j * 4 + 3, none⟩) hb1).trans e3
      have hd1 := hc4.below hBr
      obtain ⟨k', n', s', us', hq⟩ : ∃ k' n' s' us', us[j] = .mk k' n' s' us' := by cases us[j]; exact ⟨_, _, _, _, rfl⟩
      have hda : us.drop j = us[j] :: us.drop (j + 1) := List.drop_eq_getElem_cons hlt
      have HDA := Lib.hid hda; clear hda
      rw [hq] at hc4
      simp only [IsTm] at hc4
      obtain ⟨rfl, _, rfl, _, rfl, _, a', cap', rfl, _, _⟩ := hc4
      have HD1 := Lib.hid hd1
      clear e0 e1 e2 e3 hd1 hq
      have hlt1 : b1 < wr.heap.size := by omega
      have HLE := Lib.hid (show acc.length + (1 + us[j].text.length + 1) ≤ 140737488355328 by
        have h1 := congrArg List.length HE.out
        have h2 := HL.out
        rw [HDA.out] at h1
        simp only [Tm.textF, List.length_append, List.length_cons, List.length_nil] at h1 h2
        omega)
      have hBa : Below wr.heap.size wr (wr.alloc (.cells #[.int .u8 k', .int .i64 n', .string s', .slice a' us'.length cap'] 46)) := (Below.refl _ wr).alloc (Nat.le_refl _) _
      have HP := Lib.hid (put_any B b acc ⟨#[sep]⟩ _ (HB.out.below hBa) (by have := HLE.out; show acc.length + 1 ≤ _; omega) (by simp; omega))
      have HX := Lib.hid (World.alloc_heap_new wr (.cells #[.int .u8 k', .int .i64 n', .string s', .slice a' us'.length cap'] 46))
      have HBA := Lib.hid hBa; clear hBa
      go_wp2_with (go_at_call 116; refine HP.out.mono ?_)
      clear HP
      rintro e w2 rfl hb2 hB2 hK2
      have hx2 := hK2 _ _ _ _ (by decide) (by decide) HX.out
      have x0 := cells_at hx2 0 _ rfl
      have x1 := cells_at hx2 1 _ rfl
      have x2 := cells_at hx2 2 _ rfl
      have x3' := cells_at hx2 3 _ rfl
      have hBr2 : Below B wr w2 := (HBA.out.mono (by omega)).trans hB2
      have hK02 := Lib.hid (HK.out.trans ((KeepT.below HBA.out).trans hK2))
      have HW := Lib.hid (IH.out _ (List.getElem_mem hlt) B b _ _ _ _ _ _ (HD1.out.below hBr2) hb2 (by have := HLE.out; simp only [List.length_append, List.length_cons, List.length_nil]; omega) (by have := hBr2.size; omega) hgB (tab_below hBr2 hgB HTr.out))
      clear hb2 hB2 hK2 hx2
      go_wp2_with (go_at_call 91; refine HW.out.mono ?_)
      clear HW
      rintro e w3 ⟨rfl, hb3, hB3, hK3⟩
      have HB3 := Lib.hid hb3; clear hb3
      have HK3 := Lib.hid hK3; clear hK3
      go_wp2_with fail
      go_roundw
      case rel =>
        refine ⟨j + 1, 44, _, by omega, by go_num, rfl, ?_, HB3, (hBr.trans hBr2).trans hB3, hK02.out.trans HK3.out⟩
        show _ = _
        rw [← HE.out, HDA.out]
        simp only [Tm.textF, List.append_assoc]; rfl
      case measure => simp [intOf]; omega
    · have hda : us.drop j = [] := List.drop_eq_nil_of_le (by omega)
      have hacc : acc = bs ++ (s.data.toList ++ Tm.textF 40 us) := by have := HE.out; rw [hda] at this; simpa [Tm.textF] using this
      have HACC := Lib.hid hacc
      have HP := Lib.hid (put_any B b acc ⟨#[41]⟩ _ HB.out (by have := HL.out; rw [HACC.out]; simp only [List.length_append, List.length_cons, List.length_nil] at this ⊢; show _ + 1 ≤ _; omega) (by omega))
      clear hacc hda
      go_wp2_with (go_at_call 116; refine HP.out.mono ?_)
      clear HP
      rintro e w2 rfl hb2 hB2 hK2
      have HB2 := Lib.hid hb2; clear hb2
      have HK2 := Lib.hid hK2; clear hK2
      go_wp2_with fail
      go_end0
      refine ⟨rfl, ?_, hBr.trans hB2, HK.out.trans HK2.out⟩
      have := HB2.out
      rw [HACC.out] at this
      simpa only [List.append_assoc] using this
end Go.Proofs.YtcoieohbmkjpoaaGreatDoor
namespace Go.Proofs.YtcoieohbmkjpoaaGreatDoor
open Go.RowKit

set_option maxRecDepth 100000 in
set_option maxHeartbeats 4000000 in
theorem writeOperands_any (k n : Int) (s : ByteArray) (us : List Tm) (ih : ∀ t ∈ us, WrAt t) (sign : ByteArray) (B b : Nat) (bs : List UInt8) (c0 c1 c2 c3 : Value) (w : World) (ht : IsTm B w c0 c1 c2 c3 (.mk k n s us)) (hb : Bld B b bs w)
    (hlen : bs.length + (Tm.textO (strengthI k s us.length) us.length sign.data.toList 0 us).length ≤ 140737488355328) (hBw : B ≤ w.heap.size) (hgB : 3 < B) (htab : Lib.TabIs Tryz.prog w "internal/strconv.uint64pow10" .u64 Lib.pow10Tab) :
    Calls Tryz.prog 119 #[.pointer (some ⟨b, 0, none⟩), .agg #[c0, c1, c2, c3], .string sign] w fun e w' => e = .returned (.tuple #[]) ∧ Bld B b (bs ++ Tm.textO (strengthI k s us.length) us.length sign.data.toList 0 us) w' ∧ Below B w w' ∧ KeepT w w' := by
  have HTT := Lib.hid ht
  simp only [IsTm] at ht
  obtain ⟨rfl, hk, rfl, hnn, rfl, hs, a, cap, rfl, hl, hargs⟩ := ht
  have HA := Lib.hid hargs; clear hargs
  have IH := Lib.hid ih; clear ih
  have HT := Lib.hid htab; clear htab
  have HL := Lib.hid hlen; clear hlen
  have HM := Lib.hid hl
  unfold maxLen at hl
  generalize hst : strengthI k s us.length = o
  rw [hst] at HL
  have HST := Lib.hid hst; clear hst
  have hx := World.alloc_heap_new w (.cells #[.int .u8 k, .int .i64 n, .string s, .slice a us.length cap] 46)
  have hBe : Below w.heap.size w (w.alloc (.cells #[.int .u8 k, .int .i64 n, .string s, .slice a us.length cap] 46)) := (Below.refl _ w).alloc (Nat.le_refl _) _
  have HX := Lib.hid hx
  have HB1 := Lib.hid (hb.below hBe)
  have hBw1 : Below B w (w.alloc (.cells #[.int .u8 k, .int .i64 n, .string s, .slice a us.length cap] 46)) := hBe.mono hBw
  have HK1 := Lib.hid (KeepT.below hBe)
  clear hx hBe hb
  go_enter Tryz.func119, Tryz.ntmps119
  go_wp2_with fail
  revert HX HB1 hBw1 HK1
  generalize w.alloc (.cells #[.int .u8 k, .int .i64 n, .string s, .slice a us.length cap] 46) = w1
  intro HX HB1 hBw1 HK1
  go_loopw [11] (fun i wr => ∃ (j : Nat) (acc : List UInt8), j ≤ us.length ∧ i = .int .i64 j ∧ Hid (acc ++ Tm.textO o us.length sign.data.toList j (us.drop j) = bs ++ Tm.textO o us.length sign.data.toList 0 us) ∧
      Hid (Bld B b acc wr) ∧ Below B w wr ∧ Hid (KeepT w1 wr) ∧ Hid (KeepT w wr)) (fun i _ => us.length - (intOf i).toNat)
  case atStart => exact ⟨0, bs, Nat.zero_le _, rfl, rfl, HB1, hBw1, KeepT.refl _, HK1⟩
  case round =>
    obtain ⟨j, acc, hj, rfl, HE, HB, hBr, HK, HKw⟩ := hrel
    have hsz := hBr.size
    have HTr := Lib.hid (tab_below hBr hgB HT.out)
    have hxr := HK.out _ _ _ _ (by decide) (by decide) HX.out
    have t0 := cells_at hxr 0 _ rfl
    have t1 := cells_at hxr 1 _ rfl
    have t2 := cells_at hxr 2 _ rfl
    have t3 := cells_at hxr 3 _ rfl
    have HXR := Lib.hid hxr
    have hltw : w.heap.size < wr.heap.size := (Array.getElem?_eq_some_iff.1 hxr).1
    clear hxr
    by_cases hlt : j < us.length
    · obtain ⟨b1, off, ha1, hb1, hI1⟩ := HA.out (by intro e; rw [e] at hlt; simp at hlt)
      subst ha1
      obtain ⟨d0, d1, d2, d3, e0, e1, e2, e3, hc4⟩ := hI1.at j hlt
      have g0 := (hBr.cell (p := ⟨b1, off + j * 4, none⟩) hb1).trans e0
      have g1 := (hBr.cell (p := ⟨b1, off + j * 4 + 1, none⟩) hb1).trans e1
      have g2 := (hBr.cell (p := ⟨b1, off + j * 4 + 2, none⟩) hb1).trans e2
      have g3 := (hBr.cell (p := ⟨b1, off + j * 4 + 3, none⟩) hb1).trans e3
      have hd1 := hc4.below hBr
      obtain ⟨k', n', s', us', hq⟩ : ∃ k' n' s' us', us[j] = .mk k' n' s' us' := by cases us[j]; exact ⟨_, _, _, _, rfl⟩
      have hda : us.drop j = us[j] :: us.drop (j + 1) := List.drop_eq_getElem_cons hlt
      have HDA := Lib.hid hda; clear hda
      rw [hq] at hc4
      simp only [IsTm] at hc4
      obtain ⟨rfl, _, rfl, _, rfl, _, a', cap', rfl, _, _⟩ := hc4
      have HD1 := Lib.hid hd1
      clear e0 e1 e2 e3 hd1 hq
      have hlt1 : b1 < wr.heap.size := by omega
      have HLE := Lib.hid (show acc.length + ((if j + 1 = us.length then sign.data.toList else []).length + ((if enclosedB o j us[j] then 40 :: (us[j].text ++ [41]) else us[j].text).length)) ≤ 140737488355328 by
        have h1 := congrArg List.length HE.out
        have h2 := HL.out
        rw [HDA.out] at h1
        simp only [Tm.textO, List.length_append] at h1 h2 ⊢
        omega)
      have hBa : Below wr.heap.size wr (wr.alloc (.cells #[.int .u8 k', .int .i64 n', .string s', .slice a' us'.length cap'] 46)) := (Below.refl _ wr).alloc (Nat.le_refl _) _
      have HX2 := Lib.hid (World.alloc_heap_new wr (.cells #[.int .u8 k', .int .i64 n', .string s', .slice a' us'.length cap'] 46))
      have HB2 := Lib.hid (HB.out.below hBa)
      have HXR2 := Lib.hid ((hBa.block _ hltw).trans HXR.out)
      have HBA := Lib.hid hBa; clear hBa
      have HTQ := Lib.hid (HTT.out.below hBr)
      by_cases hlast : j + 1 = us.length
      · have HLA := Lib.hid hlast
        have hlb : ((j : Int) == (us.length : Int) - 1) = true := by rw [beq_iff_eq]; omega
        clear hlast
        have HP := Lib.hid (put_any B b acc sign _ HB2.out (by have := HLE.out; rw [if_pos HLA.out] at this; have e : sign.data.toList.length = sign.size := Array.length_toList; rw [e] at this; omega) (by simp; omega))
        go_wp2_with (go_at_call 116; refine HP.out.mono ?_)
        clear HP
        rintro e w2 ⟨rfl, hb2, hB2, hK2⟩
        have HBX := Lib.hid hb2
        have hBr2 : Below B wr w2 := (HBA.out.mono (by omega)).trans hB2
        have HK2 := Lib.hid ((KeepT.below HBA.out).trans hK2)
        have HX3 := Lib.hid (hK2 _ _ _ _ (by decide) (by decide) HX2.out)
        have HX4 := Lib.hid (hK2 _ _ _ _ (by decide) (by decide) HXR2.out)
        clear hb2 hB2 hK2 HX2 HXR2 HB2
        have HACC : Hid (acc ++ sign.data.toList = acc ++ (if j + 1 = us.length then sign.data.toList else [])) := by show _ = _; rw [if_pos HLA.out]
        revert HBX HACC
        generalize acc ++ sign.data.toList = acc1
        intro HBX HACC
        clear t0 t1 t2 t3 g0 g1 g2 g3
        have hx3 := HX3.out
        have hx4 := HX4.out
        have x0 := cells_at hx3 0 _ rfl
        have x1 := cells_at hx3 1 _ rfl
        have x2 := cells_at hx3 2 _ rfl
        have x3 := cells_at hx3 3 _ rfl
        have y0 := cells_at hx4 0 _ rfl
        have y1 := cells_at hx4 1 _ rfl
        have y2 := cells_at hx4 2 _ rfl
        have y3 := cells_at hx4 3 _ rfl
        clear hx3 hx4
        have hz2 := hBr2.size
        have HEN := Lib.hid (show Calls Tryz.prog 159 #[.agg #[.int .u8 k, .int .i64 n, .string s, .slice (some ⟨b1, off, none⟩) us.length cap], .int .i64 j] w2 (fun e w' => e = .returned (.bool (enclosedB o j us[j])) ∧ Below w2.heap.size w2 w') by
          have := enclosed_any B k n s us j hlt _ _ _ _ w2 (HTQ.out.below hBr2) (by omega)
          rw [HST.out] at this; exact this)
        cases hen : enclosedB o j us[j]
        · have HENC := Lib.hid hen
          go_wp2_with (go_at_call 159; refine HEN.out.mono ?_)
          clear HEN
          rintro e w3 ⟨rfl, hB3⟩
          have hBr3 : Below B wr w3 := hBr2.trans (hB3.mono (by omega))
          have hx5 := (hB3.block _ (Array.getElem?_eq_some_iff.1 HX3.out).1).trans HX3.out
          have z0 := cells_at hx5 0 _ rfl
          have z1 := cells_at hx5 1 _ rfl
          have z2 := cells_at hx5 2 _ rfl
          have z3 := cells_at hx5 3 _ rfl
          have HW := Lib.hid (IH.out _ (List.getElem_mem hlt) B b _ _ _ _ _ _ (HD1.out.below hBr3) (HBX.out.below hB3) (by have := HLE.out; rw [HENC.out] at this; rw [HACC.out]; simp only [List.length_append, Bool.false_eq_true, if_false] at this ⊢; omega) (by have := hBr3.size; omega) hgB (tab_below hBr3 hgB HTr.out))
          have HK3 := Lib.hid (HK2.out.trans (KeepT.below hB3))
          clear hx5 hB3 x0 x1 x2 x3 y0 y1 y2 y3
          go_wp2_with (go_at_call 91; refine HW.out.mono ?_)
          clear HW
          rintro e w5 ⟨rfl, hb5, hB5, hK5⟩
          have HB5 := Lib.hid hb5; clear hb5
          have HK5 := Lib.hid (HK3.out.trans hK5); clear hK5
          go_wp2_with fail
          go_roundw
          case rel =>
            refine ⟨j + 1, _, by omega, by go_num, ?_, HB5, (hBr.trans hBr3).trans hB5, HK.out.trans HK5.out, HKw.out.trans HK5.out⟩
            show _ = _
            rw [← HE.out, HDA.out, HACC.out]
            simp only [Tm.textO, List.append_assoc, HENC.out, Bool.false_eq_true, if_false]
          case measure => simp [intOf]; omega
        · have HENC := Lib.hid hen
          go_wp2_with (go_at_call 159; refine HEN.out.mono ?_)
          clear HEN
          rintro e w3 ⟨rfl, hB3⟩
          have hBr3 : Below B wr w3 := hBr2.trans (hB3.mono (by omega))
          have HX5 := Lib.hid ((hB3.block _ (Array.getElem?_eq_some_iff.1 HX3.out).1).trans HX3.out)
          have HK3 := Lib.hid (HK2.out.trans (KeepT.below hB3))
          have HLE2 := Lib.hid (show (acc ++ (if j + 1 = us.length then sign.data.toList else [])).length + (1 + (us[j].text.length + 1)) ≤ 140737488355328 by
            have := HLE.out; rw [HENC.out] at this; simp only [List.length_append, if_true, List.length_cons, List.length_nil] at this ⊢; omega)
          have HP := Lib.hid (put_any B b _ ⟨#[40]⟩ _ (HBX.out.below hB3) (by rw [HACC.out]; have := HLE2.out; show _ + 1 ≤ _; omega) (by have := hBr3.size; omega))
          clear hB3 x0 x1 x2 x3 y0 y1 y2 y3
          go_wp2_with (go_at_call 116; refine HP.out.mono ?_)
          clear HP
          rintro e w4 ⟨rfl, hb4, hB4, hK4⟩
          have hBr4 : Below B wr w4 := hBr3.trans hB4
          have hx6 := hK4 _ _ _ _ (by decide) (by decide) HX5.out
          have z0 := cells_at hx6 0 _ rfl
          have z1 := cells_at hx6 1 _ rfl
          have z2 := cells_at hx6 2 _ rfl
          have z3 := cells_at hx6 3 _ rfl
          have HW := Lib.hid (IH.out _ (List.getElem_mem hlt) B b _ _ _ _ _ _ (HD1.out.below hBr4) hb4 (by rw [HACC.out]; have := HLE2.out; simp only [List.length_append, List.length_cons, List.length_nil] at this ⊢; omega) (by have := hBr4.size; omega) hgB (tab_below hBr4 hgB HTr.out))
          have HK4 := Lib.hid (HK3.out.trans hK4)
          clear hx6 hb4 hB4 hK4
          go_wp2_with (go_at_call 91; refine HW.out.mono ?_)
          clear HW
          rintro e w5 ⟨rfl, hb5, hB5, hK5⟩
          have hBr5 : Below B wr w5 := hBr4.trans hB5
          have HP := Lib.hid (put_any B b _ ⟨#[41]⟩ _ hb5 (by rw [HACC.out]; have := HLE2.out; simp only [List.length_append, List.length_cons, List.length_nil] at this ⊢; show _ + 1 ≤ _; omega) (by have := hBr5.size; omega))
          have HK5 := Lib.hid (HK4.out.trans hK5)
          clear hb5 hK5 hB5 z0 z1 z2 z3
          go_wp2_with (go_at_call 116; refine HP.out.mono ?_)
          clear HP
          rintro e w6 ⟨rfl, hb6, hB6, hK6⟩
          have HB6 := Lib.hid hb6; clear hb6
          have HK6 := Lib.hid (HK5.out.trans hK6); clear hK6
          go_wp2_with fail
          go_roundw
          case rel =>
            refine ⟨j + 1, _, by omega, by go_num, ?_, HB6, (hBr.trans hBr5).trans hB6, HK.out.trans HK6.out, HKw.out.trans HK6.out⟩
            show _ = _
            rw [← HE.out, HDA.out, HACC.out]
            simp only [Tm.textO, List.append_assoc, HENC.out, if_true, List.cons_append, List.nil_append]
          case measure => simp [intOf]; omega
      · have HLA := Lib.hid hlast
        have hlb : ((j : Int) == (us.length : Int) - 1) = false := by rw [beq_eq_false_iff_ne]; omega
        clear hlast
        obtain ⟨w2, hw2⟩ : ∃ w2, wr.alloc (.cells #[.int .u8 k', .int .i64 n', .string s', .slice a' us'.length cap'] 46) = w2 := ⟨_, rfl⟩
        have hBr2 : Below B wr w2 := by rw [← hw2]; exact HBA.out.mono (by omega)
        have HK2 : Hid (KeepT wr w2) := by rw [← hw2]; exact KeepT.below HBA.out
        have HX3 : Hid (w2.heap[wr.heap.size]? = some (.cells #[.int .u8 k', .int .i64 n', .string s', .slice a' us'.length cap'] 46 (0, 0))) := by rw [← hw2]; exact HX2.out
        have HX4 : Hid (w2.heap[w.heap.size]? = some (.cells #[.int .u8 k, .int .i64 n, .string s, .slice (some ⟨b1, off, none⟩) us.length cap] 46 (0, 0))) := by rw [← hw2]; exact HXR2.out
        obtain ⟨acc1, hacc1⟩ : ∃ acc1, acc1 = acc := ⟨_, rfl⟩
        have HBX : Hid (Bld B b acc1 w2) := by rw [← hw2, hacc1]; exact HB2.out
        have HACC : Hid (acc1 = acc ++ (if j + 1 = us.length then sign.data.toList else [])) := by show _ = _; rw [if_neg HLA.out, hacc1]; simp
        clear hacc1
        have HW2 := Lib.hid hw2
        clear hw2 HX2 HXR2 HB2
        go_wp2_with fail
        rw [HW2.out]
        clear HW2
        clear t0 t1 t2 t3 g0 g1 g2 g3
        have hx3 := HX3.out
        have hx4 := HX4.out
        have x0 := cells_at hx3 0 _ rfl
        have x1 := cells_at hx3 1 _ rfl
        have x2 := cells_at hx3 2 _ rfl
        have x3 := cells_at hx3 3 _ rfl
        have y0 := cells_at hx4 0 _ rfl
        have y1 := cells_at hx4 1 _ rfl
        have y2 := cells_at hx4 2 _ rfl
        have y3 := cells_at hx4 3 _ rfl
        clear hx3 hx4
        have hz2 := hBr2.size
        have HEN := Lib.hid (show Calls Tryz.prog 159 #[.agg #[.int .u8 k, .int .i64 n, .string s, .slice (some ⟨b1, off, none⟩) us.length cap], .int .i64 j] w2 (fun e w' => e = .returned (.bool (enclosedB o j us[j])) ∧ Below w2.heap.size w2 w') by
          have := enclosed_any B k n s us j hlt _ _ _ _ w2 (HTQ.out.below hBr2) (by omega)
          rw [HST.out] at this; exact this)
        cases hen : enclosedB o j us[j]
        · have HENC := Lib.hid hen
          go_wp2_with (go_at_call 159; refine HEN.out.mono ?_)
          clear HEN
          rintro e w3 ⟨rfl, hB3⟩
          have hBr3 : Below B wr w3 := hBr2.trans (hB3.mono (by omega))
          have hx5 := (hB3.block _ (Array.getElem?_eq_some_iff.1 HX3.out).1).trans HX3.out
          have z0 := cells_at hx5 0 _ rfl
          have z1 := cells_at hx5 1 _ rfl
          have z2 := cells_at hx5 2 _ rfl
          have z3 := cells_at hx5 3 _ rfl
          have HW := Lib.hid (IH.out _ (List.getElem_mem hlt) B b _ _ _ _ _ _ (HD1.out.below hBr3) (HBX.out.below hB3) (by have := HLE.out; rw [HENC.out] at this; rw [HACC.out]; simp only [List.length_append, Bool.false_eq_true, if_false] at this ⊢; omega) (by have := hBr3.size; omega) hgB (tab_below hBr3 hgB HTr.out))
          have HK3 := Lib.hid (HK2.out.trans (KeepT.below hB3))
          clear hx5 hB3 x0 x1 x2 x3 y0 y1 y2 y3
          go_wp2_with (go_at_call 91; refine HW.out.mono ?_)
          clear HW
          rintro e w5 ⟨rfl, hb5, hB5, hK5⟩
          have HB5 := Lib.hid hb5; clear hb5
          have HK5 := Lib.hid (HK3.out.trans hK5); clear hK5
          go_wp2_with fail
          go_roundw
          case rel =>
            refine ⟨j + 1, _, by omega, by go_num, ?_, HB5, (hBr.trans hBr3).trans hB5, HK.out.trans HK5.out, HKw.out.trans HK5.out⟩
            show _ = _
            rw [← HE.out, HDA.out, HACC.out]
            simp only [Tm.textO, List.append_assoc, HENC.out, Bool.false_eq_true, if_false]
          case measure => simp [intOf]; omega
        · have HENC := Lib.hid hen
          go_wp2_with (go_at_call 159; refine HEN.out.mono ?_)
          clear HEN
          rintro e w3 ⟨rfl, hB3⟩
          have hBr3 : Below B wr w3 := hBr2.trans (hB3.mono (by omega))
          have HX5 := Lib.hid ((hB3.block _ (Array.getElem?_eq_some_iff.1 HX3.out).1).trans HX3.out)
          have HK3 := Lib.hid (HK2.out.trans (KeepT.below hB3))
          have HLE2 := Lib.hid (show (acc ++ (if j + 1 = us.length then sign.data.toList else [])).length + (1 + (us[j].text.length + 1)) ≤ 140737488355328 by
            have := HLE.out; rw [HENC.out] at this; simp only [List.length_append, if_true, List.length_cons, List.length_nil] at this ⊢; omega)
          have HP := Lib.hid (put_any B b _ ⟨#[40]⟩ _ (HBX.out.below hB3) (by rw [HACC.out]; have := HLE2.out; show _ + 1 ≤ _; omega) (by have := hBr3.size; omega))
          clear hB3 x0 x1 x2 x3 y0 y1 y2 y3
          go_wp2_with (go_at_call 116; refine HP.out.mono ?_)
          clear HP
          rintro e w4 ⟨rfl, hb4, hB4, hK4⟩
          have hBr4 : Below B wr w4 := hBr3.trans hB4
          have hx6 := hK4 _ _ _ _ (by decide) (by decide) HX5.out
          have z0 := cells_at hx6 0 _ rfl
          have z1 := cells_at hx6 1 _ rfl
          have z2 := cells_at hx6 2 _ rfl
          have z3 := cells_at hx6 3 _ rfl
          have HW := Lib.hid (IH.out _ (List.getElem_mem hlt) B b _ _ _ _ _ _ (HD1.out.below hBr4) hb4 (by rw [HACC.out]; have := HLE2.out; simp only [List.length_append, List.length_cons, List.length_nil] at this ⊢; omega) (by have := hBr4.size; omega) hgB (tab_below hBr4 hgB HTr.out))
          have HK4 := Lib.hid (HK3.out.trans hK4)
          clear hx6 hb4 hB4 hK4
          go_wp2_with (go_at_call 91; refine HW.out.mono ?_)
          clear HW
          rintro e w5 ⟨rfl, hb5, hB5, hK5⟩
          have hBr5 : Below B wr w5 := hBr4.trans hB5
          have HP := Lib.hid (put_any B b _ ⟨#[41]⟩ _ hb5 (by rw [HACC.out]; have := HLE2.out; simp only [List.length_append, List.length_cons, List.length_nil] at this ⊢; show _ + 1 ≤ _; omega) (by have := hBr5.size; omega))
          have HK5 := Lib.hid (HK4.out.trans hK5)
          clear hb5 hK5 hB5 z0 z1 z2 z3
          go_wp2_with (go_at_call 116; refine HP.out.mono ?_)
          clear HP
          rintro e w6 ⟨rfl, hb6, hB6, hK6⟩
          have HB6 := Lib.hid hb6; clear hb6
          have HK6 := Lib.hid (HK5.out.trans hK6); clear hK6
          go_wp2_with fail
          go_roundw
          case rel =>
            refine ⟨j + 1, _, by omega, by go_num, ?_, HB6, (hBr.trans hBr5).trans hB6, HK.out.trans HK6.out, HKw.out.trans HK6.out⟩
            show _ = _
            rw [← HE.out, HDA.out, HACC.out]
            simp only [Tm.textO, List.append_assoc, HENC.out, if_true, List.cons_append, List.nil_append]
          case measure => simp [intOf]; omega
    · have hda : us.drop j = [] := List.drop_eq_nil_of_le (by omega)
      have hacc : acc = bs ++ Tm.textO o us.length sign.data.toList 0 us := by have := HE.out; rw [hda] at this; simpa [Tm.textO] using this
      have HACC := Lib.hid hacc
      clear hacc hda
      go_wp2
      go_end0
      refine ⟨rfl, ?_, hBr, HKw.out⟩
      have := HB.out
      rw [HACC.out] at this
      exact this
end Go.Proofs.YtcoieohbmkjpoaaGreatDoor
namespace Go.Proofs.YtcoieohbmkjpoaaGreatDoor
open Go.RowKit Go.Shelf
attribute [local go_sem] Oper.semAt_some

/-- A term with its level, held in four cells of a world. -/
structure Nd where
  c0 : Value
  c1 : Value
  c2 : Value
  c3 : Value
  t : Tm
  l : Nat
/-- Those that the world wt holds below n₀, at levels that fit. -/
abbrev NdIn (n₀ : Nat) (wt : World) : Type := { x : Nd // IsTm n₀ wt x.c0 x.c1 x.c2 x.c3 x.t ∧ x.l < 4611686018427387904 }
def NdIn.key {n₀ : Nat} {wt : World} (x : NdIn n₀ wt) : Tm × Nat := (x.1.t, x.1.l)
def NdIn.val {n₀ : Nat} {wt : World} (x : NdIn n₀ wt) : Value := .agg #[x.1.c0, x.1.c1, x.1.c2, x.1.c3, .int .i64 x.1.l]

/-- What a round keeps: all below n₀, and from n₁ on every block of cells. -/
def Kept (n₀ n₁ : Nat) (W W' : World) : Prop :=
  Below n₀ W W' ∧ ∀ b, n₁ ≤ b → ∀ cs t f, W.heap[b]? = some (.cells cs t f) → W'.heap[b]? = some (.cells cs t f)
theorem Kept.refl (n₀ n₁ : Nat) (W : World) : Kept n₀ n₁ W W := ⟨Below.refl _ _, fun _ _ _ _ _ h => h⟩
theorem Kept.trans {n₀ n₁ : Nat} {A B C : World} (h : Kept n₀ n₁ A B) (k : Kept n₀ n₁ B C) : Kept n₀ n₁ A C :=
  ⟨h.1.trans k.1, fun b hb cs t f hc => k.2 b hb cs t f (h.2 b hb cs t f hc)⟩
theorem Kept.alloc {n₀ n₁ : Nat} {A W : World} (h : Kept n₀ n₁ A W) (hn : n₀ ≤ W.heap.size) (o : Obj) : Kept n₀ n₁ A (W.alloc o) :=
  h.trans ⟨(Below.refl _ W).alloc hn o, fun _ _ _ _ _ hc => (Below.heap_alloc _ _ _ (Array.getElem?_eq_some_iff.1 hc).1).trans hc⟩
theorem Kept.setCell {n₀ n₁ : Nat} {A W : World} (h : Kept n₀ n₁ A W) {b : Nat} (hb : n₀ ≤ b) (hb1 : b < n₁) (o : Nat) (u : Value) : Kept n₀ n₁ A (W.setCell ⟨b, o, none⟩ u) :=
  h.trans ⟨(Below.refl _ W).setCell (p := ⟨b, o, none⟩) hb u, fun k hk cs t f hc => (Below.heap_setCell _ _ _ _ (by simp; omega)).trans hc⟩
theorem Kept.putObj {n₀ n₁ : Nat} {W : World} {l : Nat} {o : Obj} (o' : Obj) (hl : n₀ ≤ l) (hn : n₀ ≤ W.heap.size) (h : W.heap[l]? = some o) (hc : o.isCells = false) : Kept n₀ n₁ W (W.putObj l o') := by
  refine ⟨(Below.refl n₀ W).grown (grownBy_putObj' W l o') hn (fun k e => by cases e; omega), fun b _ cs t f hb => ?_⟩
  by_cases e : b = l
  · subst e; rw [hb] at h; cases h; cases hc
  · rw [World.putObj_heap_other e]; exact hb
theorem Kept.drew {n₀ n₁ : Nat} {A W : World} (h : Kept n₀ n₁ A W) : Kept n₀ n₁ A W.drew := h.trans ⟨(Below.refl _ W).drew, fun _ _ _ _ _ hc => hc⟩

theorem RoundIn.anyDepth {F : Fence} (hd : F.depth = none) {m m' : Nat} {P : Program} {l : Nat} {f : FuncId} {tmps : Array Value} {assign body : Code} {w : World} {R : Ending → World → Prop}
    (h : RoundIn F m P l f tmps assign body w R) : RoundIn F m' P l f tmps assign body w R := ⟨h.1, fun c cs _ => h.2 c cs (fun d h => by rw [hd] at h; cases h)⟩
theorem YieldAt.anyDepth {F : Fence} (hd : F.depth = none) {m : Nat} (m' : Nat) {P : Program} {l : Nat} {args : Array Value} {W : World} {R : Ending → World → Prop} (h : YieldAt F m P l args W R) : YieldAt F m' P l args W R := by
  obtain ⟨fn, tmps, assign, body, hy, hR⟩ := h
  exact ⟨fn, tmps, assign, body, hy, RoundIn.anyDepth hd hR⟩

theorem abides_alloc {β : Type} {B : Nat} {J : β → World → Prop} (h : AbidesFrom B J) {s : β} {W : World} (o : Obj) (hs : J s W) : J s (W.alloc o) :=
  h s W _ none hs (World.grownBy_alloc W o none) (fun r e => by cases e)

set_option maxRecDepth 100000 in
set_option maxHeartbeats 2000000 in
/-- The walk over a term's subterms hands each one to yield, in order, or stops where yield says so. -/
theorem walkIn_any (F : Fence) (hd : F.depth = none) (hw : F.fn 105) (hro : F.round = none) (l n₀ n₁ B0 N : Nat) (wt : World)
    (J Jx : List (NdIn n₀ wt) → World → Prop) (hJ : AbidesFrom B0 J) (hn : n₀ ≤ n₁)
    (hY : ∀ m pre (x : NdIn n₀ wt) W, J pre W → pre.length < N → YieldAt F m Tryz.prog l #[x.val] W fun e W' =>
      (e = .returned (.bool true) ∧ J (pre ++ [x]) W' ∧ Kept n₀ n₁ W W') ∨ (e = .returned (.bool false) ∧ Jx (pre ++ [x]) W')) (t : Tm) :
    ∀ (n : Nat) (c0 c1 c2 c3 : Value) (v : Nat) (pre : List (NdIn n₀ wt)) (W : World), IsTm n₀ wt c0 c1 c2 c3 t → Below n₀ wt W → n₁ ≤ W.heap.size → v + t.depth < 4611686018427387904 → pre.length + (t.nodes v).length ≤ N → J pre W →
      CallsIn F n Tryz.prog 105 #[.agg #[c0, c1, c2, c3, .int .i64 v], .func (.yield l) #[] #[]] W fun e W' =>
        (e = .returned (.bool true) ∧ (∃ ys : List (NdIn n₀ wt), ys.map NdIn.key = t.nodes v ∧ J (pre ++ ys) W') ∧ Kept n₀ n₁ W W') ∨
        (e = .returned (.bool false) ∧ ∃ ys : List (NdIn n₀ wt), ys.map NdIn.key <+: t.nodes v ∧ Jx (pre ++ ys) W') := by
  induction t using Tm.ind with
  | h k nn s args ih =>
    intro n c0 c1 c2 c3 v pre W ht hb h1 hv hN hJ0
    have hdd : ∀ k : Nat, (F.depth.isSome = true → 1 ≤ k) := fun k h => by rw [hd] at h; cases h
    simp only [Tm.depth] at hv
    have ht0 := ht
    have hv0 : v < 4611686018427387904 := by omega
    simp only [IsTm] at ht
    obtain ⟨rfl, hk, rfl, hnn, rfl, hs, a, cap, rfl, hl, hargs⟩ := ht
    have hyv := hY (n - 1) pre ⟨⟨.int .u8 k, .int .i64 nn, .string s, .slice a args.length cap, .mk k nn s args, v⟩, ht0, hv0⟩ _ (abides_alloc hJ (.cells #[.int .u8 k, .int .i64 nn, .string s, .slice a args.length cap, .int .i64 v] 106) hJ0) (by simp only [Tm.nodes, List.length_cons] at hN; omega)
    simp only [NdIn.val] at hyv
    obtain ⟨fn, tmps, assign, body, hy, hR⟩ := hyv
    refine callsIn_of_wp Tryz.func105 rfl hw ?_ hro
    simp only [Tryz.ntmps105, List.size_toArray, List.length_cons, List.length_nil, Nat.reduceAdd, Nat.reduceSub, Array.replicate_succ, Array.replicate_zero, List.push_toArray, List.append_toArray, List.nil_append, List.cons_append]
    have HR := Lib.hid (hR.mono (R' := fun e W2 => (e = .returned (.bool true) ∧ J (pre ++ [⟨⟨.int .u8 k, .int .i64 nn, .string s, .slice a args.length cap, .mk k nn s args, v⟩, ht0, hv0⟩]) W2 ∧ Kept n₀ n₁ W W2 ∧ W.heap.size < W2.heap.size ∧
        W2.heap[W.heap.size]? = some (.cells #[.int .u8 k, .int .i64 nn, .string s, .slice a args.length cap, .int .i64 v] 106 (0, 0)) ∧
        W2.cell? ⟨W.heap.size, 3, none⟩ = some (.slice a args.length cap)) ∨
      (e = .returned (.bool false) ∧ Jx (pre ++ [⟨⟨.int .u8 k, .int .i64 nn, .string s, .slice a args.length cap, .mk k nn s args, v⟩, ht0, hv0⟩]) W2)) (fun e W2 h => h.elim
        (fun ⟨he, hj, hk⟩ => .inl ⟨he, hj, ((Kept.refl _ _ W).alloc (by omega) _).trans hk, by have := hk.1.size; simp at this; omega, hk.2 _ h1 _ _ _ (World.alloc_heap_new W _), cells_at (hk.2 _ h1 _ _ _ (World.alloc_heap_new W _)) 3 _ rfl⟩) .inr))
    clear hR
    have HL := Lib.hid hl; clear hl
    gi_wp2_with (first | ((try refine ⟨hdd _, ?_⟩); refine HR.out.mono ?_; clear HR; rintro e W2 (⟨rfl, hJ2, hk2, hz2, hbx, q3⟩ | ⟨rfl, hx2⟩)))
    · gi_loopw [15] (fun i wr => ∃ (j : Nat) (ys : List (NdIn n₀ wt)), j ≤ args.length ∧ i = .int .i64 j ∧ ys.map NdIn.key = Tm.nodesL (v + 1) (args.take j) ∧
          J (pre ++ [⟨⟨.int .u8 k, .int .i64 nn, .string s, .slice a args.length cap, .mk k nn s args, v⟩, ht0, hv0⟩] ++ ys) wr ∧ Kept n₀ n₁ W wr ∧ W.heap.size < wr.heap.size ∧
          wr.heap[W.heap.size]? = some (.cells #[.int .u8 k, .int .i64 nn, .string s, .slice a args.length cap, .int .i64 v] 106 (0, 0)))
        (fun i _ => args.length - (intOf i).toNat)
      case atStart => exact ⟨0, [], Nat.zero_le _, rfl, by simp [Tm.nodesL], by simpa using hJ2, hk2, hz2, hbx⟩
      case round =>
        obtain ⟨j, ys, hj, rfl, hys, hJr, hkr, hzr, hbr⟩ := hrel
        have hm := HL.out
        unfold maxLen at hm
        by_cases hlt : j < args.length
        · obtain ⟨b, off, rfl, hbn, hIs⟩ := hargs (by intro e; rw [e] at hlt; simp at hlt)
          obtain ⟨d0, d1, d2, d3, e0, e1, e2, e3, hd4⟩ := hIs.at j hlt
          have hbw := hb.trans hkr.1
          have g0 := (hbw.cell (p := ⟨b, off + j * 4, none⟩) hbn).trans e0
          have g1 := (hbw.cell (p := ⟨b, off + j * 4 + 1, none⟩) hbn).trans e1
          have g2 := (hbw.cell (p := ⟨b, off + j * 4 + 2, none⟩) hbn).trans e2
          have g3 := (hbw.cell (p := ⟨b, off + j * 4 + 3, none⟩) hbn).trans e3
          have q4 := cells_at hbr 4 _ rfl
          clear e0 e1 e2 e3
          obtain ⟨k', n', s', as', hq⟩ : ∃ k' n' s' as', args[j] = .mk k' n' s' as' := by cases args[j]; exact ⟨_, _, _, _, rfl⟩
          rw [hq] at hd4
          have hmem : (.mk k' n' s' as' : Tm) ∈ args := by rw [← hq]; exact List.getElem_mem hlt
          have hdep := Tm.depthL_mem hmem
          have hd0 := hd4
          simp only [IsTm] at hd4
          obtain ⟨rfl, _, rfl, _, rfl, _, a', cap', rfl, _, _⟩ := hd4
          have hlen := congrArg List.length hys
          simp only [List.length_map] at hlen
          have hpf := (Tm.nodesL_prefix (v + 1) args j hlt (List.prefix_refl _)).length_le
          rw [hq] at hpf
          have hih := ih _ hmem (n - 1) _ _ _ _ (v + 1) _ _ hd0 ((hbw.alloc (by omega) (.cells #[.int .u8 k', .int .i64 n', .string s', .slice a' as'.length cap'] 46))) (by simp; omega) (by omega) (by simp only [Tm.nodes, List.length_cons, List.length_append, List.length_nil] at hN hpf ⊢; omega) (abides_alloc hJ _ hJr)
          rw [show ((v + 1 : Nat) : Int) = (v : Int) + 1 from by omega] at hih
          have HIH := Lib.hid hih
          have HQ := Lib.hid hq
          have HYS := Lib.hid hys
          clear hih hq ih hdep hys hlen hpf
          gi_wp2_with ((try refine ⟨hdd _, ?_⟩); gi_at_call 105; refine HIH.out.mono ?_; clear HIH; rintro e W3 (⟨rfl, ⟨zs, hzs, hJ3⟩, hk3⟩ | ⟨rfl, zs, hzs, hx3⟩))
          · go_roundw
            case rel =>
              refine ⟨j + 1, ys ++ zs, by omega, by go_num, ?_, by simpa [List.append_assoc] using hJ3, (hkr.alloc (by omega) _).trans hk3, by have := hk3.1.size; simp at this; omega,
                hk3.2 _ h1 _ _ _ ((Below.heap_alloc _ _ _ hzr).trans hbr)⟩
              rw [List.map_append, HYS.out, hzs, Tm.nodesL_snoc _ _ _ hlt, HQ.out]
            case measure => simp [intOf]; omega
          · go_ret
            refine .inr ⟨rfl, [⟨⟨.int .u8 k, .int .i64 nn, .string s, .slice (some ⟨b, off, none⟩) args.length cap, .mk k nn s args, v⟩, ht0, hv0⟩] ++ ys ++ zs, ?_, by simpa [List.append_assoc] using hx3⟩
            have hp := Tm.nodesL_prefix (v + 1) args j hlt (by rw [HQ.out]; exact hzs)
            rw [List.map_append, List.map_append, HYS.out, Tm.nodes]
            simp only [List.map_cons, List.map_nil, NdIn.key, List.cons_append, List.nil_append]
            obtain ⟨r, hr⟩ := hp
            exact ⟨r, by rw [← hr]; simp⟩
        · have HYS := Lib.hid hys; clear hys
          gi_wp2
          go_ret
          refine .inl ⟨rfl, ⟨[⟨⟨.int .u8 k, .int .i64 nn, .string s, .slice a args.length cap, .mk k nn s args, v⟩, ht0, hv0⟩] ++ ys, ?_, by simpa [List.append_assoc] using hJr⟩, hkr⟩
          have := HYS.out
          rw [List.take_of_length_le (by omega)] at this
          rw [List.map_append, this, Tm.nodes]
          simp only [List.map_cons, List.map_nil, NdIn.key, List.cons_append, List.nil_append]
    · go_ret
      refine .inr ⟨rfl, [_], ?_, hx2⟩
      simp only [List.map_cons, List.map_nil, Tm.nodes, NdIn.key]
      exact ⟨_, rfl⟩

set_option maxRecDepth 100000 in
set_option maxHeartbeats 1000000 in
/-- The function that subterms returns: all subterms in order, or those up to where the loop is left. -/
theorem subterms_stops (F : Fence) (hd : F.depth = none) (n : Nat) (hc : F.fn 104) (hw : F.fn 105) (hro : F.round = none) (Bt n₀ : Nat) (wt w : World) (t : Tm) (c0 c1 c2 c3 : Value)
    (hn : n₀ ≤ w.heap.size) (hb : Below n₀ wt w) (ht : IsTm n₀ wt c0 c1 c2 c3 t) (hdep : t.depth < 4611686018427387900)
    (hBt : w.heap[Bt]? = some (.cells #[c0, c1, c2, c3] 46 (0, 0))) :
    SeqStopsK F n Tryz.prog 104 #[.pointer (some ⟨Bt, 0, none⟩)] (fun x : NdIn n₀ wt => #[x.val]) (Kept n₀ w.heap.size) (fun ys => ys.map NdIn.key = t.nodes 1) (fun pre => pre.map NdIn.key <+: t.nodes 1) (t.nodes 1).length w := by
  intro l J Jx W hW hJ _ hY h0
  have hdd : ∀ k : Nat, (F.depth.isSome = true → 1 ≤ k) := fun k h => by rw [hd] at h; cases h
  have hlt : Bt < w.heap.size := (Array.getElem?_eq_some_iff.1 hBt).1
  have hBW := (hW.block Bt hlt).trans hBt
  have g0 := cells_at hBW 0 c0 rfl
  have g1 := cells_at hBW 1 c1 rfl
  have g2 := cells_at hBW 2 c2 rfl
  have g3 := cells_at hBW 3 c3 rfl
  have hp := walkIn_any F hd hw hro l n₀ w.heap.size W.heap.size (t.nodes 1).length wt J Jx hJ hn (fun m pre x W hj hl => YieldAt.anyDepth hd m (hY pre x W hj hl)) t (n - 1) c0 c1 c2 c3 1 [] W ht (hb.trans (hW.mono hn)) hW.size (by omega) (by simp) h0
  clear hBt hBW
  have HP := Lib.hid hp; clear hp
  refine callsIn_of_wp Tryz.func104 rfl hc ?_ hro
  simp only [Tryz.ntmps104, List.size_toArray, List.length_cons, List.length_nil, Nat.reduceAdd, Nat.reduceSub, Array.replicate_succ, Array.replicate_zero, List.push_toArray, List.append_toArray, List.nil_append, List.cons_append]
  gi_wp2_with ((try refine ⟨hdd _, ?_⟩); gi_at_call 105; refine HP.out.mono ?_; clear HP; rintro e W1 (⟨rfl, ⟨ys, hys, hJ1⟩, _⟩ | ⟨rfl, ys, hys, hx⟩))
  · go_end0
    exact ⟨⟨_, rfl⟩, .inl ⟨ys, hys, by simpa using hJ1⟩⟩
  · go_end0
    exact ⟨⟨_, rfl⟩, .inr ⟨ys, hys, by simpa using hx⟩⟩

set_option maxHeartbeats 1000000 in
/-- subterms boxes its argument and returns a function that captures the box. -/
theorem subterms_in (F : Fence) (n : Nat) (hf : F.fn 70) (hro : F.round = none) (c0 c1 c2 c3 : Value) (w : World) :
    CallsIn F n Tryz.prog 70 #[.agg #[c0, c1, c2, c3]] w fun e w' => e = .returned (.func (.func 104) #[] #[.pointer (some ⟨w.heap.size, 0, none⟩)]) ∧ w' = w.alloc (.cells #[c0, c1, c2, c3] 46) := by
  refine callsIn_of_wp Tryz.func70 rfl hf ?_ hro
  simp only [Tryz.ntmps70, List.size_toArray, List.length_cons, List.length_nil, Nat.reduceAdd, Nat.reduceSub, Array.replicate_succ, Array.replicate_zero, List.push_toArray, List.append_toArray, List.nil_append, List.cons_append]
  gi_wp2
  go_ret
  exact ⟨rfl, rfl⟩
end Go.Proofs.YtcoieohbmkjpoaaGreatDoor
