/- Texts that belong together: Package term: Compare's parts. Package term: Compare and Equal. Package term: Compare's order on terms, as plain mathematics: a sign, antisymmetric, 0 for equal terms alone, transitive. Package term: the iterator over all subterms. Package term: Depth. Package term: Ground. Package term: Valid. Package term: the requirements of each kind. Package term: Valid. Package term: Value. Package match: bi -/
import Derived.Test.YtlmdhlckgbgfhaaGreatDoorProg
import Derived.Test.YtlmdhlckgbgfhaaGreatDoorZa
import Derived.Test.YtlmdhlckgbgfhaaGreatDoorShelf
import Derived.WalkKit
import Derived.WalkSpells
import Derived.WalkLawsBesides
import Derived.Deep.QuietTactic
import Derived.BigQuiet
import Derived.Sort.Walk0
import Derived.RangeFuncNested
import Derived.RangeFuncBound
import Derived.RangeFuncCalls
import Derived.RangeFuncLeaves
import Derived.RangeFuncBox
import Derived.Shelf.Abstract
import Derived.Shelf.RegionOpen
import Derived.OwnWalkIn
import Derived.TacticsInMore
import Derived.LoopNIn
import Derived.LoopIn
import Derived.Maps.OwnIn
import Derived.Maps.OwnOps
import Derived.Maps.OwnSet
import Derived.Lib.Bytealg
set_option maxRecDepth 100000
set_option maxHeartbeats 400000000
namespace Go.Proofs.YtlmdhlckgbgfhaaGreatDoor
open Go.RowKit

def rankI (k : Int) : Int := if k = 4 then 3 else if k = 3 then 4 else if k = 1 ∨ k = 2 ∨ k = 5 ∨ k = 6 then k else 7 + k

theorem rank_any (k : Int) (w : World) (hk : 0 ≤ k ∧ k ≤ 255) :
   Calls Tryz.prog 102 #[.int .u8 k] w fun e w' => e = .returned (.int .i64 (rankI k)) ∧ w = w' := by
 obtain ⟨h0, h1⟩ := hk
 have hcs : k = 1 ∨ k = 2 ∨ k = 3 ∨ k = 4 ∨ k = 5 ∨ k = 6 ∨ (k ≠ 1 ∧ k ≠ 2 ∧ k ≠ 3 ∧ k ≠ 4 ∧ k ≠ 5 ∧ k ≠ 6) := by omega
 rcases hcs with rfl | rfl | rfl | rfl | rfl | rfl | ⟨e1, e2, e3, e4, e5, e6⟩
 case inr.inr.inr.inr.inr.inr =>
   have hr : rankI k = 7 + k := by unfold rankI; rw [if_neg e4, if_neg e3, if_neg (by omega)]
   have HR := Hi hr; clear hr
   have g1 : (k == 1) = false := by simpa using e1
   have g2 : (k == 2) = false := by simpa using e2
   have g3 : (k == 3) = false := by simpa using e3
   have g4 : (k == 4) = false := by simpa using e4
   have g5 : (k == 5) = false := by simpa using e5
   have g6 : (k == 6) = false := by simpa using e6
   clear e1 e2 e3 e4 e5 e6
   go_enter Tryz.func102, Tryz.ntmps102
   go_wp2
   go_ret
   exact ⟨by rw [HR.out]; rfl, rfl⟩
 all_goals
   go_enter Tryz.func102, Tryz.ntmps102
   go_wp2
   go_ret
   exact ⟨rfl, rfl⟩

def strCmp (s t : ByteArray) : Int := if Op.bytesLess s.toList t.toList then -1 else if s.toList == t.toList then 0 else 1

theorem compareString_any (s t : ByteArray) (w : World) :
   Calls Tryz.prog 104 #[.string s, .string t] w fun e w' => e = .returned (.int .i64 (strCmp s t)) ∧ w = w' := by
 have hr : strCmp s t = (if Op.bytesLess s.toList t.toList then -1 else if s.toList == t.toList then 0 else 1) := rfl
 have HR := Hi hr; clear hr
 cases h1 : Op.bytesLess s.toList t.toList <;> cases h2 : s.toList == t.toList
 all_goals
   have H1 := Hi h1
   have H2 := Hi h2
   go_enter Tryz.func104, Tryz.ntmps104
   go_wp2
   go_ret
   exact ⟨by rw [HR.out, H1.out, H2.out]; rfl, rfl⟩

def orI (a b : Int) : Int := if a ≠ 0 then a else b

theorem or_two (b : Nat) (x y : Int) (cap : Nat) (w : World) (h0 : w.cell? ⟨b, 0, none⟩ = some (.int .i64 x)) (h1 : w.cell? ⟨b, 1, none⟩ = some (.int .i64 y)) :
   Calls Tryz.prog 103 #[.slice (some ⟨b, 0, none⟩) 2 cap] w fun e w' => e = .returned (.int .i64 (orI x y)) ∧ w = w' := by
 have hr : orI x y = (if x ≠ 0 then x else y) := rfl
 have HR := Hi hr; clear hr
 go_enter Tryz.func103, Tryz.ntmps103
 go_wp2
 go_loop [5, 8] (fun _ i => ∃ k : Nat, k ≤ 2 ∧ i = .int .i64 k ∧ (1 ≤ k → x = 0) ∧ (2 ≤ k → y = 0)) (fun _ i => 2 - (intOf i).toNat)
 case atStart => exact ⟨0, by omega, rfl, by omega, by omega⟩
 case round =>
   obtain ⟨k, hk, rfl, hx, hy⟩ := hrel
   have hkc : k = 0 ∨ k = 1 ∨ k = 2 := by omega
   have HX := Hi hx; clear hx
   have HY := Hi hy; clear hy
   rcases hkc with rfl | rfl | rfl
   · by_cases hz : x = 0
     · have HZ := Hi hz
       have hz' : (x != 0) = false := by simpa using hz
       clear hz
       go_wp2
       go_round
       case rel => exact ⟨1, by omega, by go_num, fun _ => HZ.out, by omega⟩
       case measure => simp [intOf]
     · have HZ := Hi hz
       have hz' : (x != 0) = true := by simpa using hz
       clear hz
       go_wp2
       go_ret
       exact ⟨by rw [HR.out, if_pos HZ.out]; rfl, rfl⟩
   · by_cases hz : y = 0
     · have HZ := Hi hz
       have hz' : (y != 0) = false := by simpa using hz
       clear hz
       go_wp2
       go_round
       case rel => exact ⟨2, by omega, by go_num, fun _ => HX.out (by omega), fun _ => HZ.out⟩
       case measure => simp [intOf]
     · have HZ := Hi hz
       have hz' : (y != 0) = true := by simpa using hz
       clear hz
       go_wp2
       go_ret
       exact ⟨by rw [HR.out, if_neg (by simpa using HX.out (by omega))]; rfl, rfl⟩
   · go_wp2
     go_ret
     exact ⟨by rw [HR.out, HX.out (by omega), HY.out (by omega)]; rfl, rfl⟩
end Go.Proofs.YtlmdhlckgbgfhaaGreatDoor
namespace Go.Proofs.YtlmdhlckgbgfhaaGreatDoor
open Go.RowKit

mutual
def Tm.cmp : Tm → Tm → Int
 | .mk k n s us, .mk k' n' s' as' =>
   if Lib.compareInt (rankI k) (rankI k') ≠ 0 then Lib.compareInt (rankI k) (rankI k')
   else if k = 1 ∧ n ≠ n' then Lib.compareInt n n'
   else if orI (Lib.compareInt us.length as'.length) (strCmp s s') ≠ 0 then orI (Lib.compareInt us.length as'.length) (strCmp s s')
   else if Tm.cmpL us as' ≠ 0 then Tm.cmpL us as'
   else Lib.compareInt n n'
def Tm.cmpL : List Tm → List Tm → Int
 | [], [] => 0
 | [], _ :: _ => -1
 | _ :: _, [] => 1
 | a :: us, b :: bs => if Tm.cmp a b ≠ 0 then Tm.cmp a b else Tm.cmpL us bs
end
def CmpAt (B : Nat) (t : Tm) : Prop := ∀ (t' : Tm) (c0 c1 c2 c3 d0 d1 d2 d3 : Value) (W : World), IsTm B W c0 c1 c2 c3 t → IsTm B W d0 d1 d2 d3 t' → B ≤ W.heap.size →
 Calls Tryz.prog 70 #[.agg #[c0, c1, c2, c3], .agg #[d0, d1, d2, d3]] W fun e w' => e = .returned (.int .i64 (Tm.cmp t t')) ∧ Below W.heap.size W w'

theorem compareFunc_any (B : Nat) (us bs : List Tm) (ih : ∀ t ∈ us, CmpAt B t) (a b : Option Addr) (capa capb : Nat) (w : World) (hw : B ≤ w.heap.size) (hla : us.length ≤ maxLen) (_hlb : bs.length ≤ maxLen)
   (ha : us ≠ [] → ∃ b off, a = some ⟨b, off, none⟩ ∧ b < B ∧ IsTms B w b off us) (hb : bs ≠ [] → ∃ b' off, b = some ⟨b', off, none⟩ ∧ b' < B ∧ IsTms B w b' off bs) :
   Calls Tryz.prog 105 #[.slice a us.length capa, .slice b bs.length capb, .func (.func 70) #[] #[]] w
     fun e w' => e = .returned (.int .i64 (Tm.cmpL us bs)) ∧ Below w.heap.size w w' := by
 unfold maxLen at hla
 have HA := Hi ha; clear ha
 have HB := Hi hb; clear hb
 have IH := Hi ih; clear ih
 go_enter Tryz.func105, Tryz.ntmps105
 go_wp2
 go_loopw [13] (fun i wr => ∃ j : Nat, j ≤ us.length ∧ j ≤ bs.length ∧ i = .int .i64 j ∧ Below w.heap.size w wr ∧ Hid (Tm.cmpL us bs = Tm.cmpL (us.drop j) (bs.drop j))) (fun i _ => us.length - (intOf i).toNat)
 case atStart => exact ⟨0, Nat.zero_le _, Nat.zero_le _, rfl, Below.refl _ _, rfl⟩
 case round =>
   obtain ⟨j, hja, hjb, rfl, hB, HC⟩ := hrel
   by_cases hlt : j < us.length
   · obtain ⟨b1, off, rfl, hb1, hI1⟩ := HA.out (by intro e; rw [e] at hlt; simp at hlt)
     obtain ⟨c0, c1, c2, c3, e0, e1, e2, e3, hc4⟩ := hI1.at j hlt
     have hBB := hB.mono hw
     have g0 := (hBB.cell (p := ⟨b1, off + j * 4, none⟩) hb1).trans e0
     have g1 := (hBB.cell (p := ⟨b1, off + j * 4 + 1, none⟩) hb1).trans e1
     have g2 := (hBB.cell (p := ⟨b1, off + j * 4 + 2, none⟩) hb1).trans e2
     have g3 := (hBB.cell (p := ⟨b1, off + j * 4 + 3, none⟩) hb1).trans e3
     have hd1 := hc4.below hBB
     obtain ⟨k', n', s', as', hq⟩ : ∃ k' n' s' as', us[j] = .mk k' n' s' as' := by cases us[j]; exact ⟨_, _, _, _, rfl⟩
     have HQ := Hi hq
     rw [hq] at hc4
     simp only [IsTm] at hc4
     obtain ⟨rfl, _, rfl, _, rfl, _, a', cap', rfl, _, _⟩ := hc4
     have hda : us.drop j = us[j] :: us.drop (j + 1) := List.drop_eq_getElem_cons hlt
     have HDA := Hi hda; clear hda
     have HD1 := Hi hd1
     clear e0 e1 e2 e3 hq hd1
     by_cases hltb : j < bs.length
     · obtain ⟨b2, off2, rfl, hb2, hI2⟩ := HB.out (by intro e; rw [e] at hltb; simp at hltb)
       obtain ⟨d0, d1, d2, d3, e0, e1, e2, e3, hc4⟩ := hI2.at j hltb
       have k0 := (hBB.cell (p := ⟨b2, off2 + j * 4, none⟩) hb2).trans e0
       have k1 := (hBB.cell (p := ⟨b2, off2 + j * 4 + 1, none⟩) hb2).trans e1
       have k2 := (hBB.cell (p := ⟨b2, off2 + j * 4 + 2, none⟩) hb2).trans e2
       have k3 := (hBB.cell (p := ⟨b2, off2 + j * 4 + 3, none⟩) hb2).trans e3
       have hd2 := hc4.below hBB
       obtain ⟨k'', n'', s'', as'', hq2⟩ : ∃ k' n' s' as', bs[j] = .mk k' n' s' as' := by cases bs[j]; exact ⟨_, _, _, _, rfl⟩
       have HQ2 := Hi hq2
       rw [hq2] at hc4
       simp only [IsTm] at hc4
       obtain ⟨rfl, _, rfl, _, rfl, _, a'', cap'', rfl, _, _⟩ := hc4
       have hdb : bs.drop j = bs[j] :: bs.drop (j + 1) := List.drop_eq_getElem_cons hltb
       have HDB := Hi hdb; clear hdb
       have HD2 := Hi hd2
       clear e0 e1 e2 e3 hq2 hd2
       have hlt1 : b1 < wr.heap.size := by have := hB.size; omega
       have hlt2 : b2 < wr.heap.size := by have := hB.size; omega
       have hBa : Below wr.heap.size wr ((wr.alloc (.cells #[.int .u8 k', .int .i64 n', .string s', .slice a' as'.length cap'] 24)).alloc (.cells #[.int .u8 k'', .int .i64 n'', .string s'', .slice a'' as''.length cap''] 24)) := ((Below.refl _ wr).alloc (Nat.le_refl _) _).alloc (by simp) _
       have hBn : B ≤ wr.heap.size := by have := hB.size; omega
       have hcall := IH.out _ (List.getElem_mem hlt) _ _ _ _ _ _ _ _ _ _ (HD1.out.below (hBa.mono hBn)) (HD2.out.below (hBa.mono hBn)) (by simp; omega)
       have HCALL := Hi hcall
       clear hcall
       have HBA := Hi hBa
       clear hBa
       by_cases hz : Tm.cmp us[j] bs[j] = 0
       · have HZ := Hi hz
         have hz' : (Tm.cmp us[j] bs[j] != 0) = false := by simpa using hz
         clear hz
         go_wp2_with (go_at_call 70; refine HCALL.out.mono ?_; rintro e W3 ⟨rfl, hB3⟩)
         go_roundw
         case rel =>
           refine ⟨j + 1, by omega, by omega, by go_num, hB.trans ((HBA.out.trans (hB3.mono (by simp; omega))).mono hB.size), ?_⟩
           show _ = _
           rw [HC.out, HDA.out, HDB.out]
           simp only [Tm.cmpL]
           rw [if_neg (by simpa using HZ.out)]
         case measure => simp [intOf]; omega
       · have HZ := Hi hz
         have hz' : (Tm.cmp us[j] bs[j] != 0) = true := by simpa using hz
         clear hz
         go_wp2_with (go_at_call 70; refine HCALL.out.mono ?_; rintro e W3 ⟨rfl, hB3⟩)
         go_ret
         refine ⟨?_, hB.trans ((HBA.out.trans (hB3.mono (by simp; omega))).mono hB.size)⟩
         rw [HC.out, HDA.out, HDB.out]
         simp only [Tm.cmpL]
         rw [if_pos HZ.out]; rfl
     · have hdb : bs.drop j = [] := List.drop_eq_nil_of_le (by omega)
       have HDB := Hi hdb; clear hdb
       go_wp2
       go_ret
       refine ⟨?_, hB.alloc (by have := hB.size; omega) _⟩
       rw [HC.out, HDA.out, HDB.out]
       simp only [Tm.cmpL]; rfl
   · have hda : us.drop j = [] := List.drop_eq_nil_of_le (by omega)
     have HDA := Hi hda; clear hda
     by_cases hltb : us.length < bs.length
     · have hdb : bs.drop j = bs[j]'(by omega) :: bs.drop (j + 1) := List.drop_eq_getElem_cons (by omega)
       have HDB := Hi hdb; clear hdb
       go_wp2
       go_ret
       refine ⟨?_, hB⟩
       rw [HC.out, HDA.out, HDB.out]
       simp only [Tm.cmpL]; rfl
     · have hdb : bs.drop j = [] := List.drop_eq_nil_of_le (by omega)
       have HDB := Hi hdb; clear hdb
       go_wp2
       go_ret
       refine ⟨?_, hB⟩
       rw [HC.out, HDA.out, HDB.out]
       simp only [Tm.cmpL]; rfl
end Go.Proofs.YtlmdhlckgbgfhaaGreatDoor
namespace Go.Proofs.YtlmdhlckgbgfhaaGreatDoor

def Sg (x : Int) : Prop := x = -1 ∨ x = 0 ∨ x = 1
def Tri (x y z : Int) : Prop := x ≤ 0 → y ≤ 0 → z ≤ 0 ∧ (z = 0 ↔ x = 0 ∧ y = 0)
theorem orI_zero {a b : Int} : orI a b = 0 ↔ a = 0 ∧ b = 0 := by unfold orI; by_cases h : a = 0 <;> simp [h]
theorem Sg.or {a b : Int} (ha : Sg a) (hb : Sg b) : Sg (orI a b) := by
 unfold orI
 split
 · exact ha
 · exact hb
theorem orI_neg {a b a' b' : Int} (ha : a' = -a) (hb : a = 0 → b' = -b) : orI a' b' = -orI a b := by
 unfold orI
 by_cases h : a = 0
 · have : a' = 0 := by omega
   simp [h, this, hb h]
 · simp [h, ha]
theorem orI_l {a b : Int} (h : a ≠ 0) : orI a b = a := if_pos h
theorem orI_r {a b : Int} (h : a = 0) : orI a b = b := if_neg (fun e => e h)
theorem Tri.or {a1 a2 a3 b1 b2 b3 : Int} (ha : Tri a1 a2 a3) (hb : a1 = 0 → a2 = 0 → Tri b1 b2 b3) : Tri (orI a1 b1) (orI a2 b2) (orI a3 b3) := by
 intro hx hy
 by_cases h1 : a1 = 0 <;> by_cases h2 : a2 = 0
 · have h3 := (ha (by omega) (by omega)).2.2 ⟨h1, h2⟩
   rw [orI_r h1] at hx ⊢
   rw [orI_r h2] at hy ⊢
   rw [orI_r h3]
   exact hb h1 h2 hx hy
 · rw [orI_l h2] at hy ⊢
   have h := ha (by omega) hy
   have h3 : a3 ≠ 0 := fun e => h2 (h.2.1 e).2
   rw [orI_l h3]
   exact ⟨h.1, ⟨fun e => absurd e h3, fun e => absurd e.2 h2⟩⟩
 · rw [orI_l h1] at hx ⊢
   have h := ha hx (by omega)
   have h3 : a3 ≠ 0 := fun e => h1 (h.2.1 e).1
   rw [orI_l h3]
   exact ⟨h.1, ⟨fun e => absurd e h3, fun e => absurd e.1 h1⟩⟩
 · rw [orI_l h1] at hx ⊢
   rw [orI_l h2] at hy ⊢
   have h := ha hx hy
   have h3 : a3 ≠ 0 := fun e => h1 (h.2.1 e).1
   rw [orI_l h3]
   exact ⟨h.1, ⟨fun e => absurd e h3, fun e => absurd e.1 h1⟩⟩

theorem int_sg (a b : Int) : Sg (Lib.compareInt a b) := by unfold Sg Lib.compareInt; split <;> (try split) <;> omega
theorem int_neg (a b : Int) : Lib.compareInt b a = -Lib.compareInt a b := by unfold Lib.compareInt; split <;> split <;> (try split) <;> (try split) <;> omega
theorem int_zero {a b : Int} : Lib.compareInt a b = 0 ↔ a = b := by unfold Lib.compareInt; split <;> (try split) <;> omega
theorem int_le {a b : Int} : Lib.compareInt a b ≤ 0 ↔ a ≤ b := by unfold Lib.compareInt; split <;> (try split) <;> omega
theorem int_tri (a b c : Int) : Tri (Lib.compareInt a b) (Lib.compareInt b c) (Lib.compareInt a c) := by
 intro h1 h2
 rw [int_le] at *
 rw [int_zero, int_zero, int_zero]
 omega

theorem less_irrefl : ∀ x : List UInt8, Op.bytesLess x x = false
 | [] => rfl
 | a :: x => by simp [Op.bytesLess, less_irrefl x]
def byC (x y : List UInt8) : Int := if Op.bytesLess x y then -1 else if x == y then 0 else 1
theorem byC_cons (a b : UInt8) (x y : List UInt8) : byC (a :: x) (b :: y) = orI (Lib.compareInt a.toNat b.toNat) (byC x y) := by
 have hlt : (a < b) ↔ ((a.toNat : Int) < b.toNat) := by rw [UInt8.lt_iff_toNat_lt]; omega
 by_cases h2 : a = b
 · subst h2
   rw [orI_r (int_zero.2 rfl)]
   simp [byC, Op.bytesLess]
 · have h3 : Lib.compareInt a.toNat b.toNat ≠ 0 := fun e => h2 (UInt8.toNat_inj.1 (by have := int_zero.1 e; omega))
   rw [orI_l h3]
   by_cases h1 : a < b
   · have h5 := hlt.1 h1
     unfold byC Lib.compareInt
     rw [if_pos h5]
     simp [Op.bytesLess, h1]
   · have h5 : ¬ ((a.toNat : Int) < b.toNat) := fun h => h1 (hlt.2 h)
     have h6 : (a.toNat : Int) > b.toNat := by
       have h7 : (a.toNat : Int) ≠ b.toNat := fun e => h3 (int_zero.2 e)
       omega
     unfold byC Lib.compareInt
     rw [if_neg h5, if_pos h6]
     simp [Op.bytesLess, h1, h2]
theorem byC_sg : ∀ x y : List UInt8, Sg (byC x y)
 | [], [] => Or.inr (Or.inl rfl)
 | [], _ :: _ => Or.inl rfl
 | _ :: _, [] => Or.inr (Or.inr rfl)
 | a :: x, b :: y => by rw [byC_cons]; exact (int_sg _ _).or (byC_sg x y)
theorem byC_neg : ∀ x y : List UInt8, byC y x = -byC x y
 | [], [] => rfl
 | [], _ :: _ => rfl
 | _ :: _, [] => rfl
 | a :: x, b :: y => by rw [byC_cons, byC_cons]; exact orI_neg (int_neg _ _) (fun _ => byC_neg x y)
theorem byC_zero {x y : List UInt8} : byC x y = 0 ↔ x = y := by
 unfold byC
 by_cases h : x = y
 · subst h; simp [less_irrefl]
 · by_cases h2 : Op.bytesLess x y <;> simp [h, h2]
theorem byC_up (b : UInt8) (y : List UInt8) : byC [] (b :: y) = -1 := rfl
theorem byC_down (b : UInt8) (y : List UInt8) : byC (b :: y) [] = 1 := rfl
theorem byC_tri : ∀ x y z : List UInt8, Tri (byC x y) (byC y z) (byC x z)
 | [], [], z => by intro _ h2; exact ⟨h2, by simp [byC_zero]⟩
 | [], b :: y, [] => by intro _ h2; rw [byC_down] at h2; omega
 | [], b :: y, c :: z => by intro _ _; rw [byC_up, byC_up]; exact ⟨by omega, by omega⟩
 | a :: x, [], _ => by intro h1; rw [byC_down] at h1; omega
 | a :: x, b :: y, [] => by intro _ h2; rw [byC_down] at h2; omega
 | a :: x, b :: y, c :: z => by rw [byC_cons, byC_cons, byC_cons]; exact (int_tri _ _ _).or (fun _ _ => byC_tri x y z)
theorem strCmp_eq (s t : ByteArray) : strCmp s t = byC s.toList t.toList := rfl
theorem str_inj {s t : ByteArray} : s.toList = t.toList ↔ s = t := by
 constructor
 · intro h
   rw [ByteArray.toList_eq, ByteArray.toList_eq] at h
   cases s; cases t
   simp only at h
   congr 1
   exact Array.toList_inj.1 h
 · intro h; rw [h]

theorem rank_inj {k k' : Int} (h : 0 ≤ k) (h' : 0 ≤ k') : rankI k = rankI k' ↔ k = k' := by
 unfold rankI
 constructor
 · intro e
   split at e <;> split at e <;> (try split at e) <;> (try split at e) <;> (try split at e) <;> (try split at e) <;> omega
 · intro e; rw [e]

theorem cmp_or (k n k' n' : Int) (s s' : ByteArray) (us us' : List Tm) : Tm.cmp (.mk k n s us) (.mk k' n' s' us') =
   orI (Lib.compareInt (rankI k) (rankI k')) (orI (if k = 1 then Lib.compareInt n n' else 0) (orI (Lib.compareInt us.length us'.length) (orI (strCmp s s') (orI (Tm.cmpL us us') (Lib.compareInt n n'))))) := by
 simp only [Tm.cmp]
 by_cases h1 : Lib.compareInt (rankI k) (rankI k') = 0
 · rw [if_neg (fun e => e h1), orI_r h1]
   by_cases hk : k = 1 ∧ n ≠ n'
   · rw [if_pos hk, if_pos hk.1, orI_l (fun e => hk.2 (int_zero.1 e))]
   · have z : (if k = 1 then Lib.compareInt n n' else 0) = 0 := by
       split
       · next hk1 => exact int_zero.2 (Decidable.byContradiction fun e => hk ⟨hk1, e⟩)
       · rfl
     rw [if_neg hk, orI_r z]
     by_cases h3 : Lib.compareInt us.length us'.length = 0
     · rw [orI_r h3, orI_r h3]
       by_cases h4 : strCmp s s' = 0
       · rw [if_neg (fun e => e h4), orI_r h4]
         rfl
       · rw [if_pos h4, orI_l h4]
     · rw [orI_l h3, orI_l h3, if_pos h3]
 · rw [if_pos h1, orI_l h1]
theorem cmpL_cons (a b : Tm) (us bs : List Tm) : Tm.cmpL (a :: us) (b :: bs) = orI (Tm.cmp a b) (Tm.cmpL us bs) := by simp only [Tm.cmpL]; rfl

mutual
def Tm.Good : Tm → Prop
 | .mk k _ _ us => 0 ≤ k ∧ Tm.GoodL us
def Tm.GoodL : List Tm → Prop
 | [] => True
 | t :: ts => Tm.Good t ∧ Tm.GoodL ts
end
mutual
theorem cmp_zero : ∀ a b : Tm, a.Good → b.Good → (Tm.cmp a b = 0 ↔ a = b)
 | .mk k n s us, .mk k' n' s' us', ha, hb => by
   simp only [Tm.Good] at ha hb
   rw [cmp_or, orI_zero, orI_zero, orI_zero, orI_zero, orI_zero, int_zero, int_zero, int_zero, strCmp_eq, byC_zero, str_inj, cmpL_zero us us' ha.2 hb.2, rank_inj ha.1 hb.1]
   constructor
   · rintro ⟨rfl, _, _, rfl, rfl, rfl⟩; rfl
   · intro e
     injection e with e1 e2 e3 e4
     subst e1 e2 e3 e4
     refine ⟨rfl, ?_, rfl, rfl, rfl, rfl⟩
     split
     · exact int_zero.2 rfl
     · rfl
theorem cmpL_zero : ∀ a b : List Tm, Tm.GoodL a → Tm.GoodL b → (Tm.cmpL a b = 0 ↔ a = b)
 | [], [], _, _ => by simp only [Tm.cmpL]
 | [], _ :: _, _, _ => by simp [Tm.cmpL]
 | _ :: _, [], _, _ => by simp [Tm.cmpL]
 | a :: us, b :: bs, ha, hb => by
   simp only [Tm.GoodL] at ha hb
   rw [cmpL_cons, orI_zero, cmp_zero a b ha.1 hb.1, cmpL_zero us bs ha.2 hb.2, List.cons.injEq]
end
mutual
theorem cmp_tri : ∀ a b c : Tm, a.Good → b.Good → c.Good → Tri (Tm.cmp a b) (Tm.cmp b c) (Tm.cmp a c)
 | .mk k n s us, .mk k' n' s' us', .mk k2 n2 s2 us2, ha, hb, hc => by
   simp only [Tm.Good] at ha hb hc
   rw [cmp_or, cmp_or, cmp_or]
   refine (int_tri _ _ _).or (fun h h' => ?_)
   have hk : k = k' := (rank_inj ha.1 hb.1).1 (int_zero.1 h)
   have hk' : k' = k2 := (rank_inj hb.1 hc.1).1 (int_zero.1 h')
   subst hk hk'
   refine Tri.or ?_ (fun _ _ => (int_tri _ _ _).or (fun _ _ => (byC_tri _ _ _).or (fun _ _ => (cmpL_tri us us' us2 ha.2 hb.2 hc.2).or (fun _ _ => int_tri _ _ _))))
   split
   · exact int_tri _ _ _
   · intro _ _; exact ⟨by omega, by omega⟩
theorem cmpL_tri : ∀ a b c : List Tm, Tm.GoodL a → Tm.GoodL b → Tm.GoodL c → Tri (Tm.cmpL a b) (Tm.cmpL b c) (Tm.cmpL a c)
 | [], [], [], _, _, _ => by intro _ _; simp [Tm.cmpL]
 | [], [], _ :: _, _, _, _ => by intro _ _; simp [Tm.cmpL]
 | [], _ :: _, [], _, _, _ => by intro _ h2; simp [Tm.cmpL] at h2
 | [], _ :: _, _ :: _, _, _, _ => by intro _ _; simp [Tm.cmpL]
 | _ :: _, [], _, _, _, _ => by intro h1; simp [Tm.cmpL] at h1
 | _ :: _, _ :: _, [], _, _, _ => by intro _ h2; simp [Tm.cmpL] at h2
 | a :: us, b :: bs, c :: cs, ha, hb, hc => by
   simp only [Tm.GoodL] at ha hb hc
   rw [cmpL_cons, cmpL_cons, cmpL_cons]
   exact (cmp_tri a b c ha.1 hb.1 hc.1).or (fun _ _ => cmpL_tri us bs cs ha.2 hb.2 hc.2)
end
mutual
theorem good_of {B : Nat} {w : World} {c0 c1 c2 c3 : Value} : ∀ {t : Tm}, IsTm B w c0 c1 c2 c3 t → t.Good
 | .mk k n s us, h => by
   simp only [IsTm] at h
   obtain ⟨_, hk, _, _, _, _, a, cap, _, _, hr⟩ := h
   simp only [Tm.Good]
   refine ⟨hk.1, ?_⟩
   by_cases hne : us = []
   · subst hne; simp only [Tm.GoodL]
   · obtain ⟨b, off, _, _, hi⟩ := hr hne
     exact goodL_of hi
theorem goodL_of {B : Nat} {w : World} {b off : Nat} : ∀ {ts : List Tm}, IsTms B w b off ts → Tm.GoodL ts
 | [], _ => by simp only [Tm.GoodL]
 | t :: ts, h => by
   simp only [IsTms] at h
   obtain ⟨c0, c1, c2, c3, _, _, _, _, hi, hr⟩ := h
   simp only [Tm.GoodL]
   exact ⟨good_of hi, goodL_of hr⟩
end
end Go.Proofs.YtlmdhlckgbgfhaaGreatDoor
namespace Go.Proofs.YtlmdhlckgbgfhaaGreatDoor
open Go.RowKit Go.Shelf
attribute [local go_sem] Oper.semAt_some

structure Nd where
 c0 : Value
 c1 : Value
 c2 : Value
 c3 : Value
 t : Tm
 l : Nat
abbrev NdIn (n₀ : Nat) (wt : World) : Type := { x : Nd // IsTm n₀ wt x.c0 x.c1 x.c2 x.c3 x.t ∧ x.l < 4611686018427387904 }
def NdIn.key {n₀ : Nat} {wt : World} (x : NdIn n₀ wt) : Tm × Nat := (x.1.t, x.1.l)
def NdIn.val {n₀ : Nat} {wt : World} (x : NdIn n₀ wt) : Value := .agg #[x.1.c0, x.1.c1, x.1.c2, x.1.c3, .int .i64 x.1.l]

def Kept (n₀ n₁ : Nat) (W W' : World) : Prop :=
 Below n₀ W W' ∧ ∀ b, n₁ ≤ b → ∀ cs t f, W.heap[b]? = some (.cells cs t f) → W'.heap[b]? = some (.cells cs t f)
theorem Kept.refl (n₀ n₁ : Nat) (W : World) : Kept n₀ n₁ W W := ⟨Below.refl _ _, fun _ _ _ _ _ h => h⟩
theorem Kept.trans {n₀ n₁ : Nat} {A B C : World} (h : Kept n₀ n₁ A B) (k : Kept n₀ n₁ B C) : Kept n₀ n₁ A C :=
 ⟨h.1.trans k.1, fun b hb cs t f hc => k.2 b hb cs t f (h.2 b hb cs t f hc)⟩
theorem Kept.alloc {n₀ n₁ : Nat} {A W : World} (h : Kept n₀ n₁ A W) (hn : n₀ ≤ W.heap.size) (o : Obj) : Kept n₀ n₁ A (W.alloc o) :=
 h.trans ⟨(Below.refl _ W).alloc hn o, fun _ _ _ _ _ hc => (Below.heap_alloc _ _ _ (gL hc)).trans hc⟩
theorem Kept.setCell {n₀ n₁ : Nat} {A W : World} (h : Kept n₀ n₁ A W) {b : Nat} (hb : n₀ ≤ b) (hb1 : b < n₁) (o : Nat) (u : Value) : Kept n₀ n₁ A (W.setCell ⟨b, o, none⟩ u) :=
 h.trans ⟨(Below.refl _ W).setCell (p := ⟨b, o, none⟩) hb u, fun k hk cs t f hc => (Below.heap_setCell _ _ _ _ (by simp; omega)).trans hc⟩
theorem Kept.putObj {n₀ n₁ : Nat} {W : World} {l : Nat} {o : Obj} (o' : Obj) (hl : n₀ ≤ l) (hn : n₀ ≤ W.heap.size) (h : W.heap[l]? = some o) (hc : o.isCells = false) : Kept n₀ n₁ W (W.putObj l o') := by
 refine ⟨(Below.refl n₀ W).grown (grownBy_putObj' W l o') hn (fun k e => by cases e; omega), fun b _ cs t f hb => ?_⟩
 by_cases e : b = l
 · subst e; rw [hb] at h; cases h; cases hc
 · rw [World.putObj_heap_other e]; exact hb
theorem Kept.drew {n₀ n₁ : Nat} {A W : World} (h : Kept n₀ n₁ A W) : Kept n₀ n₁ A W.drew := h.trans ⟨(Below.refl _ W).drew, fun _ _ _ _ _ hc => hc⟩

theorem RoundIn.anyDepth {F : Fence} (hd : F.depth = none) {m m' : Nat} {P : Program} {l : Nat} {f : FuncId} {tmps : Array Value} {assign body : Code} {w : World} {R : Ending → World → Prop}
   (h : RoundIn F m P l f tmps assign body w R) : RoundIn F m' P l f tmps assign body w R := ⟨h.1, fun c cs _ => h.2 c cs (fun d h => by rw [hd] at h; cases h)⟩
theorem YieldAt.anyDepth {F : Fence} (hd : F.depth = none) {m : Nat} (m' : Nat) {P : Program} {l : Nat} {args : Array Value} {W : World} {R : Ending → World → Prop} (h : YieldAt F m P l args W R) : YieldAt F m' P l args W R := by
 obtain ⟨fn, tmps, assign, body, hy, hR⟩ := h
 exact ⟨fn, tmps, assign, body, hy, RoundIn.anyDepth hd hR⟩

theorem abides_alloc {β : Type} {B : Nat} {J : β → World → Prop} (h : AbidesFrom B J) {s : β} {W : World} (o : Obj) (hs : J s W) : J s (W.alloc o) :=
 h s W _ none hs (World.grownBy_alloc W o none) (fun r e => by cases e)

theorem walkIn_any (F : Fence) (hd : F.depth = none) (hw : F.fn 51) (hro : F.round = none) (l n₀ n₁ B0 N : Nat) (wt : World)
   (J Jx : List (NdIn n₀ wt) → World → Prop) (hJ : AbidesFrom B0 J) (hn : n₀ ≤ n₁)
   (hY : ∀ m pre (x : NdIn n₀ wt) W, J pre W → pre.length < N → YieldAt F m Tryz.prog l #[x.val] W fun e W' =>
     (e = .returned (.bool true) ∧ J (pre ++ [x]) W' ∧ Kept n₀ n₁ W W') ∨ (e = .returned (.bool false) ∧ Jx (pre ++ [x]) W')) (t : Tm) :
   ∀ (n : Nat) (c0 c1 c2 c3 : Value) (v : Nat) (pre : List (NdIn n₀ wt)) (W : World), IsTm n₀ wt c0 c1 c2 c3 t → Below n₀ wt W → n₁ ≤ W.heap.size → v + t.depth < 4611686018427387904 → pre.length + (t.nodes v).length ≤ N → J pre W →
     CallsIn F n Tryz.prog 51 #[.agg #[c0, c1, c2, c3, .int .i64 v], .func (.yield l) #[] #[]] W fun e W' =>
       (e = .returned (.bool true) ∧ (∃ ys : List (NdIn n₀ wt), ys.map NdIn.key = t.nodes v ∧ J (pre ++ ys) W') ∧ Kept n₀ n₁ W W') ∨
       (e = .returned (.bool false) ∧ ∃ ys : List (NdIn n₀ wt), ys.map NdIn.key <+: t.nodes v ∧ Jx (pre ++ ys) W') := by
 induction t using Tm.ind with
 | h k nn s args ih =>
   intro n c0 c1 c2 c3 v pre W ht hb h1 hv hN hJ0
   have hdd : ∀ k : Nat, (F.depth.isSome = true → 1 ≤ k) := fun k h => by rw [hd] at h; cases h
   simp only [Tm.depth] at hv
   have ht0 := ht
   have hv0 : v < 4611686018427387904 := by omega
   simp only [IsTm] at ht
   obtain ⟨rfl, hk, rfl, hnn, rfl, hs, a, cap, rfl, hl, hargs⟩ := ht
   have hyv := hY (n - 1) pre ⟨⟨.int .u8 k, .int .i64 nn, .string s, .slice a args.length cap, .mk k nn s args, v⟩, ht0, hv0⟩ _ (abides_alloc hJ (.cells #[.int .u8 k, .int .i64 nn, .string s, .slice a args.length cap, .int .i64 v] 62) hJ0) (by simp only [Tm.nodes, List.length_cons] at hN; omega)
   simp only [NdIn.val] at hyv
   obtain ⟨fn, tmps, assign, body, hy, hR⟩ := hyv
   refine callsIn_of_wp Tryz.func51 rfl hw ?_ hro
   simp only [Tryz.ntmps51, List.size_toArray, List.length_cons, List.length_nil, Nat.reduceAdd, Nat.reduceSub, Array.replicate_succ, Array.replicate_zero, List.push_toArray, List.append_toArray, List.nil_append, List.cons_append]
   have HR := Hi (hR.mono (R' := fun e W2 => (e = .returned (.bool true) ∧ J (pre ++ [⟨⟨.int .u8 k, .int .i64 nn, .string s, .slice a args.length cap, .mk k nn s args, v⟩, ht0, hv0⟩]) W2 ∧ Kept n₀ n₁ W W2 ∧ W.heap.size < W2.heap.size ∧
       W2.heap[W.heap.size]? = some (.cells #[.int .u8 k, .int .i64 nn, .string s, .slice a args.length cap, .int .i64 v] 62 (0, 0)) ∧
       W2.cell? ⟨W.heap.size, 3, none⟩ = some (.slice a args.length cap)) ∨
     (e = .returned (.bool false) ∧ Jx (pre ++ [⟨⟨.int .u8 k, .int .i64 nn, .string s, .slice a args.length cap, .mk k nn s args, v⟩, ht0, hv0⟩]) W2)) (fun e W2 h => h.elim
       (fun ⟨he, hj, hk⟩ => .inl ⟨he, hj, ((Kept.refl _ _ W).alloc (by omega) _).trans hk, by have := hk.1.size; simp at this; omega, hk.2 _ h1 _ _ _ (World.alloc_heap_new W _), cells_at (hk.2 _ h1 _ _ _ (World.alloc_heap_new W _)) 3 _ rfl⟩) .inr))
   clear hR
   have HL := Hi hl; clear hl
   gi_wp2_with (first | ((try refine ⟨hdd _, ?_⟩); refine HR.out.mono ?_; clear HR; rintro e W2 (⟨rfl, hJ2, hk2, hz2, hbx, q3⟩ | ⟨rfl, hx2⟩)))
   · gi_loopw [15] (fun i wr => ∃ (j : Nat) (ys : List (NdIn n₀ wt)), j ≤ args.length ∧ i = .int .i64 j ∧ ys.map NdIn.key = Tm.nodesL (v + 1) (args.take j) ∧
         J (pre ++ [⟨⟨.int .u8 k, .int .i64 nn, .string s, .slice a args.length cap, .mk k nn s args, v⟩, ht0, hv0⟩] ++ ys) wr ∧ Kept n₀ n₁ W wr ∧ W.heap.size < wr.heap.size ∧
         wr.heap[W.heap.size]? = some (.cells #[.int .u8 k, .int .i64 nn, .string s, .slice a args.length cap, .int .i64 v] 62 (0, 0)))
       (fun i _ => args.length - (intOf i).toNat)
     case atStart => exact ⟨0, [], Nat.zero_le _, rfl, by simp [Tm.nodesL], by simpa using hJ2, hk2, hz2, hbx⟩
     case round =>
       obtain ⟨j, ys, hj, rfl, hys, hJr, hkr, hzr, hbr⟩ := hrel
       have hm := HL.out
       unfold maxLen at hm
       by_cases hlt : j < args.length
       · obtain ⟨b, off, rfl, hbn, hIs⟩ := hargs (by intro e; rw [e] at hlt; simp at hlt)
         obtain ⟨d0, d1, d2, d3, e0, e1, e2, e3, hd4⟩ := hIs.at j hlt
         have hbw := hb.trans hkr.1
         have g0 := (hbw.cell (p := ⟨b, off + j * 4, none⟩) hbn).trans e0
         have g1 := (hbw.cell (p := ⟨b, off + j * 4 + 1, none⟩) hbn).trans e1
         have g2 := (hbw.cell (p := ⟨b, off + j * 4 + 2, none⟩) hbn).trans e2
         have g3 := (hbw.cell (p := ⟨b, off + j * 4 + 3, none⟩) hbn).trans e3
         have q4 := cells_at hbr 4 _ rfl
         clear e0 e1 e2 e3
         obtain ⟨k', n', s', as', hq⟩ : ∃ k' n' s' as', args[j] = .mk k' n' s' as' := by cases args[j]; exact ⟨_, _, _, _, rfl⟩
         rw [hq] at hd4
         have hmem : (.mk k' n' s' as' : Tm) ∈ args := by rw [← hq]; exact List.getElem_mem hlt
         have hdep := Tm.depthL_mem hmem
         have hd0 := hd4
         simp only [IsTm] at hd4
         obtain ⟨rfl, _, rfl, _, rfl, _, a', cap', rfl, _, _⟩ := hd4
         have hlen := congrArg List.length hys
         simp only [List.length_map] at hlen
         have hpf := (Tm.nodesL_prefix (v + 1) args j hlt (List.prefix_refl _)).length_le
         rw [hq] at hpf
         have hih := ih _ hmem (n - 1) _ _ _ _ (v + 1) _ _ hd0 ((hbw.alloc (by omega) (.cells #[.int .u8 k', .int .i64 n', .string s', .slice a' as'.length cap'] 24))) (by simp; omega) (by omega) (by simp only [Tm.nodes, List.length_cons, List.length_append, List.length_nil] at hN hpf ⊢; omega) (abides_alloc hJ _ hJr)
         rw [show ((v + 1 : Nat) : Int) = (v : Int) + 1 from by omega] at hih
         have HIH := Hi hih
         have HQ := Hi hq
         have HYS := Hi hys
         clear hih hq ih hdep hys hlen hpf
         gi_wp2_with ((try refine ⟨hdd _, ?_⟩); gi_at_call 51; refine HIH.out.mono ?_; clear HIH; rintro e W3 (⟨rfl, ⟨zs, hzs, hJ3⟩, hk3⟩ | ⟨rfl, zs, hzs, hx3⟩))
         · go_roundw
           case rel =>
             refine ⟨j + 1, ys ++ zs, by omega, by go_num, ?_, by simpa [List.append_assoc] using hJ3, (hkr.alloc (by omega) _).trans hk3, by have := hk3.1.size; simp at this; omega,
               hk3.2 _ h1 _ _ _ ((Below.heap_alloc _ _ _ hzr).trans hbr)⟩
             rw [List.map_append, HYS.out, hzs, Tm.nodesL_snoc _ _ _ hlt, HQ.out]
           case measure => simp [intOf]; omega
         · go_ret
           refine .inr ⟨rfl, [⟨⟨.int .u8 k, .int .i64 nn, .string s, .slice (some ⟨b, off, none⟩) args.length cap, .mk k nn s args, v⟩, ht0, hv0⟩] ++ ys ++ zs, ?_, by simpa [List.append_assoc] using hx3⟩
           have hp := Tm.nodesL_prefix (v + 1) args j hlt (by rw [HQ.out]; exact hzs)
           rw [List.map_append, List.map_append, HYS.out, Tm.nodes]
           simp only [List.map_cons, List.map_nil, NdIn.key, List.cons_append, List.nil_append]
           obtain ⟨r, hr⟩ := hp
           exact ⟨r, by rw [← hr]; simp⟩
       · have HYS := Hi hys; clear hys
         gi_wp2
         go_ret
         refine .inl ⟨rfl, ⟨[⟨⟨.int .u8 k, .int .i64 nn, .string s, .slice a args.length cap, .mk k nn s args, v⟩, ht0, hv0⟩] ++ ys, ?_, by simpa [List.append_assoc] using hJr⟩, hkr⟩
         have := HYS.out
         rw [List.take_of_length_le (by omega)] at this
         rw [List.map_append, this, Tm.nodes]
         simp only [List.map_cons, List.map_nil, NdIn.key, List.cons_append, List.nil_append]
   · go_ret
     refine .inr ⟨rfl, [_], ?_, hx2⟩
     simp only [List.map_cons, List.map_nil, Tm.nodes, NdIn.key]
     exact ⟨_, rfl⟩

theorem subterms_stops (F : Fence) (hd : F.depth = none) (n : Nat) (hc : F.fn 50) (hw : F.fn 51) (hro : F.round = none) (Bt n₀ : Nat) (wt w : World) (t : Tm) (c0 c1 c2 c3 : Value)
   (hn : n₀ ≤ w.heap.size) (hb : Below n₀ wt w) (ht : IsTm n₀ wt c0 c1 c2 c3 t) (hdep : t.depth < 4611686018427387900)
   (hBt : w.heap[Bt]? = some (.cells #[c0, c1, c2, c3] 24 (0, 0))) :
   SeqStopsK F n Tryz.prog 50 #[.pointer (some ⟨Bt, 0, none⟩)] (fun x : NdIn n₀ wt => #[x.val]) (Kept n₀ w.heap.size) (fun ys => ys.map NdIn.key = t.nodes 1) (fun pre => pre.map NdIn.key <+: t.nodes 1) (t.nodes 1).length w := by
 intro l J Jx W hW hJ _ hY h0
 have hdd : ∀ k : Nat, (F.depth.isSome = true → 1 ≤ k) := fun k h => by rw [hd] at h; cases h
 have hlt : Bt < w.heap.size := (gL hBt)
 have hBW := (hW.block Bt hlt).trans hBt
 have g0 := cells_at hBW 0 c0 rfl
 have g1 := cells_at hBW 1 c1 rfl
 have g2 := cells_at hBW 2 c2 rfl
 have g3 := cells_at hBW 3 c3 rfl
 have hp := walkIn_any F hd hw hro l n₀ w.heap.size W.heap.size (t.nodes 1).length wt J Jx hJ hn (fun m pre x W hj hl => YieldAt.anyDepth hd m (hY pre x W hj hl)) t (n - 1) c0 c1 c2 c3 1 [] W ht (hb.trans (hW.mono hn)) hW.size (by omega) (by simp) h0
 clear hBt hBW
 have HP := Hi hp; clear hp
 refine callsIn_of_wp Tryz.func50 rfl hc ?_ hro
 simp only [Tryz.ntmps50, List.size_toArray, List.length_cons, List.length_nil, Nat.reduceAdd, Nat.reduceSub, Array.replicate_succ, Array.replicate_zero, List.push_toArray, List.append_toArray, List.nil_append, List.cons_append]
 gi_wp2_with ((try refine ⟨hdd _, ?_⟩); gi_at_call 51; refine HP.out.mono ?_; clear HP; rintro e W1 (⟨rfl, ⟨ys, hys, hJ1⟩, _⟩ | ⟨rfl, ys, hys, hx⟩))
 · go_end0
   exact ⟨⟨_, rfl⟩, .inl ⟨ys, hys, by simpa using hJ1⟩⟩
 · go_end0
   exact ⟨⟨_, rfl⟩, .inr ⟨ys, hys, by simpa using hx⟩⟩

theorem subterms_in (F : Fence) (n : Nat) (hf : F.fn 26) (hro : F.round = none) (c0 c1 c2 c3 : Value) (w : World) :
   CallsIn F n Tryz.prog 26 #[.agg #[c0, c1, c2, c3]] w fun e w' => e = .returned (.func (.func 50) #[] #[.pointer (some ⟨w.heap.size, 0, none⟩)]) ∧ w' = w.alloc (.cells #[c0, c1, c2, c3] 24) := by
 refine callsIn_of_wp Tryz.func26 rfl hf ?_ hro
 simp only [Tryz.ntmps26, List.size_toArray, List.length_cons, List.length_nil, Nat.reduceAdd, Nat.reduceSub, Array.replicate_succ, Array.replicate_zero, List.push_toArray, List.append_toArray, List.nil_append, List.cons_append]
 gi_wp2
 go_ret
 exact ⟨rfl, rfl⟩
end Go.Proofs.YtlmdhlckgbgfhaaGreatDoor
namespace Go.Proofs.YtlmdhlckgbgfhaaGreatDoor
open Go.RowKit Go.Shelf
attribute [local go_sem] Oper.semAt_some

theorem cells_own {β : Type} (B : Nat) (t : TypeId) (f : β → Array Value) : Own (fun s W => W.heap[B]? = some (.cells (f s) t (0, 0))) := fun s X Y row hs hg hrow =>
 (hg.block B (gL hs) (fun e' => by obtain ⟨o, ho, hc⟩ := hrow B e'.symm; rw [show X.heap[B]? = _ from hs] at ho; cases ho; cases hc)).trans hs

end Go.Proofs.YtlmdhlckgbgfhaaGreatDoor
namespace Go.Proofs.YtlmdhlckgbgfhaaGreatDoor
open Go.RowKit Go.Shelf
attribute [local go_sem] Oper.semAt_some

def Tm.isVar (t : Tm) : Bool := decide (t.kind = 3)
def Tm.groundB (t : Tm) : Bool := (t.nodes 1).all fun x => !x.1.isVar

theorem all_of_pre {n₀ : Nat} {wt : World} {ys : List (NdIn n₀ wt)} {l : List (Tm × Nat)} {p : Tm × Nat → Bool} (h : ys.map NdIn.key = l) (hp : ys.all (fun x => p x.key) = true) : l.all p = true := by
 rw [← h, List.all_map]; exact hp
theorem not_all_of_pre {n₀ : Nat} {wt : World} {ys : List (NdIn n₀ wt)} {l : List (Tm × Nat)} {p : Tm × Nat → Bool} (h : ys.map NdIn.key <+: l) (hp : ys.all (fun x => p x.key) = false) : l.all p = false := by
 obtain ⟨r, rfl⟩ := h
 rw [List.all_append, List.all_map]
 rw [show (p ∘ NdIn.key : NdIn n₀ wt → Bool) = fun x => p x.key from rfl, hp]; rfl

set_option maxRecDepth 100000 in
set_option maxHeartbeats 2000000 in
theorem ground_in (F : Fence) (hd : F.depth = none) (hro : F.round = none) (n : Nat) (hn : 6 ≤ n) (h0 : F.fn 31) (h1 : F.fn 26) (h2 : F.fn 50) (h3 : F.fn 51)
   (t : Tm) (c0 c1 c2 c3 : Value) (w : World) (ht : IsTm w.heap.size w c0 c1 c2 c3 t) (hdep : t.depth < 4611686018427387900) :
   CallsIn F n Tryz.prog 31 #[.agg #[c0, c1, c2, c3]] w fun e w' => e = .returned (.bool t.groundB) ∧ Below w.heap.size w w' := by
 have h1n : 1 ≤ n := by omega
 have hdd : ∀ k : Nat, (F.depth.isSome = true → 1 ≤ k) := fun k h => by rw [hd] at h; cases h
 have hg : t.groundB = (t.nodes 1).all fun x => !x.1.isVar := rfl
 have HG := Hi hg; clear hg
 refine callsIn_of_wp_marks Tryz.func31 rfl h0 ?_ hro
 simp only [Tryz.ntmps31, List.size_toArray, List.length_cons, List.length_nil, Nat.reduceAdd, Nat.reduceSub, Array.replicate_succ, Array.replicate_zero, List.push_toArray, List.append_toArray, List.nil_append, List.cons_append]
 gi_wp2_with (gi_at_call 26; refine (subterms_in F (n - 1) h1 hro _ _ _ _ _).mono ?_; rintro e w' ⟨rfl, rfl⟩)
 obtain ⟨W0, hW0⟩ : ∃ W0, ((w.alloc (.cells #[c0, c1, c2, c3] 24)).alloc (.cells #[.bool false] 4)).alloc (.cells #[c0, c1, c2, c3] 24) = W0 := ⟨_, rfl⟩
 have hsz : W0.heap.size = w.heap.size + 3 := by rw [← hW0]; simp
 have hb0 : Below w.heap.size w W0 := by rw [← hW0]; exact (((Below.refl _ w).alloc (Nat.le_refl _) _).alloc (by simp) _).alloc (by simp; omega) _
 have hbd : Boxed W0 (w.heap.size + 1) 4 (.bool false) := by
   rw [← hW0]; have := Boxed.new (w.alloc (.cells #[c0, c1, c2, c3] 24)) 4 (.bool false); rw [World.size_alloc] at this; exact this.alloc _
 have hbt : W0.heap[w.heap.size + 1 + 1]? = some (.cells #[c0, c1, c2, c3] 24 (0, 0)) := by
   rw [← hW0]; have := World.alloc_heap_new ((w.alloc (.cells #[c0, c1, c2, c3] 24)).alloc (.cells #[.bool false] 4)) (.cells #[c0, c1, c2, c3] 24)
   rw [World.size_alloc, World.size_alloc] at this; exact this
 rw [hW0]
 clear hW0
 refine wpIn_rangeFunc_ownH hro h1n (gf := 50) (lb := #[.pointer (some ⟨w.heap.size + 1 + 1, 0, none⟩)]) rfl h2 (enters_of Tryz.func50 (by kernel_rfl) rfl)
   (subterms_stops F hd (n - 1) h2 h3 hro (w.heap.size + 1 + 1) w.heap.size w W0 t c0 c1 c2 c3 (by omega) hb0 ht hdep hbt) Kept.trans
   (fun W l o o' hl h hc _ => Kept.putObj o' (by omega) (by have := (gL h); omega) h hc) bR (fun _ => rfl)
   (fun pre W => Boxed W (w.heap.size + 1) 4 (.bool false) ∧ (Below w.heap.size w W ∧ W0.heap.size ≤ W.heap.size) ∧ pre.all (fun x => !x.1.t.isVar) = true)
   (fun c pre W => Boxed W (w.heap.size + 1) 4 (.bool false) ∧ (Below w.heap.size w W ∧ W0.heap.size ≤ W.heap.size) ∧ (c = .ret ∧ pre.all (fun x => !x.1.t.isVar) = false))
   (OwnFrom.and (Own.from (boxed_own _ _ fun _ => .bool false) _) (OwnFrom.and (OwnFrom.and (ownFrom_below (Nat.le_refl _) (by omega)) (fun _ _ _ _ hs hg _ => Nat.le_trans hs hg.size)) (ownFrom_pure _ _)))
   (fun c => OwnFrom.and (Own.from (boxed_own _ _ fun _ => .bool false) _) (OwnFrom.and (OwnFrom.and (ownFrom_below (Nat.le_refl _) (by omega)) (fun _ _ _ _ hs hg _ => Nat.le_trans hs hg.size)) (ownFrom_pure _ (fun (pre : List (NdIn w.heap.size w)) => c = .ret ∧ pre.all (fun x => !x.1.t.isVar) = false))))
   ⟨hbd, ⟨hb0, Nat.le_refl _⟩, rfl⟩
   (fun x a' W => ∃ Bx, W0.heap.size ≤ Bx ∧ W.heap[Bx]? = some (.cells #[x.1.c0, x.1.c1, x.1.c2, x.1.c3, .int .i64 x.1.l] 62 (0, 0)) ∧
     a' = { tmps := #[Value.agg #[c0, c1, c2, c3], Value.pointer (some { block := w.heap.size, off := 0 }), Value.pointer (some { block := w.heap.size + 1, off := 0 }),
         Value.pointer (some { block := Bx, off := 0 }), Value.agg #[c0, c1, c2, c3],
         Value.func (Fn.func 50) #[] #[Value.pointer (some { block := w.heap.size + 1 + 1, off := 0 })], x.val, undef,
         undef, undef, undef], defers := [] })
   (fun x a' s X Y row hs hg hr => by
     obtain ⟨Bx, h1, h2, h3⟩ := hs
     exact ⟨Bx, h1, cells_own Bx 62 (fun _ : Unit => #[x.1.c0, x.1.c1, x.1.c2, x.1.c3, .int .i64 x.1.l]) () X Y row h2 hg (fun r e => (hr r e).2), h3⟩) ?assign ?body ?done ?stop
 case assign =>
   rintro l pre ⟨⟨d0, d1, d2, d3, ⟨k', n', s', as'⟩, lv⟩, hx, hlv⟩ W K ⟨hi1, ⟨hi2, hiz⟩, hi3⟩ hK
   have hx0 := hx
   simp only [IsTm] at hx
   obtain ⟨rfl, _, rfl, _, rfl, _, a', cap', rfl, _, _⟩ := hx
   have hK' := hK _ _ ((KeepsOthers.alloc _ _).from _) ((Kept.refl _ _ W).alloc (by omega) (.cells #[.int .u8 k', .int .i64 n', .string s', .slice a' as'.length cap', .int .i64 lv] 62)) ⟨hi1.alloc _, ⟨hi2.alloc (by omega) _, by simp; omega⟩, hi3⟩ ⟨W.heap.size, hiz, World.alloc_heap_new _ _, rfl⟩
   clear hK
   have HK := Hi hK'; clear hK' hi3
   simp only [NdIn.val]
   gi_wp2
   exact HK.out
 case body =>
   rintro l pre ⟨⟨d0, d1, d2, d3, ⟨k', n', s', as'⟩, lv⟩, hx, hlv⟩ a' W hl hrec ⟨hi1, ⟨hi2, hiz⟩, hi3⟩ ⟨Bx, hBx, hbx, rfl⟩ hlt
   have hx0 := hx
   simp only [IsTm] at hx
   obtain ⟨rfl, _, rfl, _, rfl, _, a', cap', rfl, _, _⟩ := hx
   simp only at hbx hlv
   have q0 := cells_at hbx 0 _ rfl
   have qd := hi1.cell
   have qf := hi1.frozen
   have HI := Hi hi3; clear hi3
   by_cases hk : k' = 3
   · have hv : (pre ++ [(⟨⟨.int .u8 k', .int .i64 n', .string s', .slice a' as'.length cap', .mk k' n' s' as', lv⟩, hx0, hlv⟩ : NdIn w.heap.size w)]).all (fun x => !x.1.t.isVar) = false := by
       simp [Tm.isVar, Tm.kind, hk]
     have HV := Hi hv; clear hv
     have hk' : (k' == 3) = true := by simpa using hk
     have HKK := Hi hk; clear hk
     gi_wp2
     exact ⟨(KeepsOthers.setCell _ _ _).from _, hi1.set _, ⟨hi2.setCell (p := ⟨w.heap.size + 1, 0, none⟩) (by simp) _, by simp; omega⟩, rfl, HV.out⟩
   · have hv : (pre ++ [(⟨⟨.int .u8 k', .int .i64 n', .string s', .slice a' as'.length cap', .mk k' n' s' as', lv⟩, hx0, hlv⟩ : NdIn w.heap.size w)]).all (fun x => !x.1.t.isVar) = true := by
       rw [List.all_append, HI.out]; simp [Tm.isVar, Tm.kind, hk]
     have HV := Hi hv; clear hv
     have hk' : (k' == 3) = false := by simpa using hk
     clear hk
     gi_wp2
     exact ⟨(KeepsOthers.refl _).from _, Kept.refl _ _ _, hi1, ⟨hi2, by omega⟩, HV.out⟩
 case done =>
   rintro D ys W hD hys ⟨hbx, ⟨hB, hz⟩, hall⟩ hK
   have hc := hbx.cell
   have hf := hbx.frozen
   have HE := Hi (all_of_pre (p := fun x => !x.1.isVar) hys hall); clear hys hall
   have hK' := (KeepsOthers.setCell W ⟨w.heap.size + 1, 0, none⟩ (.bool true)).same D _ hK rfl
   have hc5 := cell_kept (World.cell?_setCell_same' W ⟨w.heap.size + 1, 0, none⟩ (.bool true) (by rw [hc]; rfl)) (grownBy_putObj' _ D (.deferred none)) (fun r e => by cases e; exact ⟨_, hK', rfl⟩)
   have HC := Hi hc5; clear hc5
   gi_wp2
   refine ⟨by simp, .inl ⟨_, _, rfl, run_takeDeferred hK', ?_⟩⟩
   have hc5 := HC.out
   refine ⟨.bool true, ?_, by rw [HG.out, HE.out], ?_⟩
   · simp [results, Tryz.f31, go_sem, hc5]
   · exact (hB.setCell (p := ⟨w.heap.size + 1, 0, none⟩) (by simp) _).trans (belowK_b (w := w) (Nat.le_refl _) _ D _ _ (by omega) hK' rfl rfl)
 case stop =>
   rintro D c pre W hD hys ⟨hbx, ⟨hB, hz⟩, rfl, hall⟩ hK
   have hc := hbx.cell
   have hf := hbx.frozen
   have HE := Hi (not_all_of_pre (p := fun x => !x.1.isVar) hys hall); clear hys hall
   have hc5 := cell_kept hc (grownBy_putObj' _ D (.deferred none)) (fun r e => by cases e; exact ⟨_, hK, rfl⟩)
   have HC := Hi hc5; clear hc5
   gi_wp2
   refine ⟨by simp, .inl ⟨_, _, rfl, run_takeDeferred hK, ?_⟩⟩
   have hc5 := HC.out
   refine ⟨.bool false, ?_, by rw [HG.out, HE.out], ?_⟩
   · simp [results, Tryz.f31, go_sem, hc5]
   · exact hB.trans (belowK_b (w := w) (Nat.le_refl _) _ D _ _ (by omega) hK rfl rfl)

theorem ground_any (t : Tm) (c0 c1 c2 c3 : Value) (w : World) (ht : IsTm w.heap.size w c0 c1 c2 c3 t) (hdep : t.depth < 4611686018427387900) :
   Calls Tryz.prog 31 #[.agg #[c0, c1, c2, c3]] w fun e w' => e = .returned (.bool t.groundB) ∧ Below w.heap.size w w' :=
 callsIn_wide.1 (ground_in Fence.wide rfl rfl 6 (Nat.le_refl _) trivial trivial trivial trivial t c0 c1 c2 c3 w ht hdep)
end Go.Proofs.YtlmdhlckgbgfhaaGreatDoor
namespace Go.Proofs.YtlmdhlckgbgfhaaGreatDoor
open Go.RowKit Go.Shelf Go.Maps

def fnElem {H : Type} : Value → Option (DataW H × List MemPlace)
 | .func (.func f) a b => if a = #[] ∧ b = #[] then some (.lit (.int .i64 f), []) else none
 | .nilFunc => some (.nil, [])
 | _ => none

theorem wpList_insert_own {H : Type} {P : Program} (w : World) {ops : Array Oper} {rest : List Oper} {o : Oper} {a : Act} {Q : Exit → Act → World → Prop}
   (hg : o.guard = none) (m x v : Operand) (t : TypeId) (hop : o.op = Op.insert t m x v)
   (k e : TypeId) (K : Keyed P k) (ht : P.underlying t = some (.map k e)) (R : Value → Option (DataW H × List MemPlace)) (b n : Nat) (D : DataW H)
   (hm : a.eval m = .map (some b)) (hown : w.ownsMap P k R b n D) (hn : n < maxLen) (key val : Value) (kl : Lit) (hx : a.eval x = key) (hv : a.eval v = val) (hkey : keyOf P k key = some kl)
   (d : DataW H) (ps : List MemPlace) (hval : R val = some (d, ps))
   (hK : ∀ w', w'.ownsMap P k R b (n + 1) (D.put kl d) → w.grownBy w' (some b) → wpList P ops Q rest (a.put o.dst undef) w') :
   wpList P ops Q (o :: rest) a w := by
 refine wpList_plain hg fun K' hK' => ?_
 obtain ⟨w', hrun, r1, r2⟩ := hown.update K ht hn hkey hval
 unfold Oper.wp
 simp [execOp, hop, hm, hx, hv, hrun, Result.andThen]
 exact hK' _ _ (hK w' r1 r2)

def reqD : DataW Unit := .map [(.int .u8 1, .lit (.int .i64 42)), (.int .u8 2, .lit (.int .i64 43)), (.int .u8 3, .lit (.int .i64 45)), (.int .u8 4, .lit (.int .i64 46)), (.int .u8 5, .lit (.int .i64 47)), (.int .u8 6, .lit (.int .i64 49))]

theorem req_any (w : World) :
   Calls Tryz.prog 25 #[] w fun e w' => e = .returned (.map (some w.heap.size)) ∧ w'.ownsMap Tryz.prog 5 fnElem w.heap.size 6 reqD ∧ Below w.heap.size w w' ∧ w.heap.size < w'.heap.size := by
 have hmm := @run_makeMap Tryz.prog
 have hown := World.ownsMap_made (H := Unit) w Tryz.prog 5 fnElem
 have hB : Below w.heap.size w (w.alloc (.map #[] 0)) := (Below.refl _ w).alloc (Nat.le_refl _) _
 have hz : w.heap.size < (w.alloc (.map #[] 0)).heap.size := by simp
 go_enter Tryz.func25, Tryz.ntmps25
 go_wp2_with (refine wpList_insert_own _ rfl _ _ _ _ rfl _ _ (Maps.int_keyed Tryz.underlying5) Tryz.underlying56 fnElem _ _ _ rfl hown (by unfold maxLen; omega) _ _ _ rfl rfl (Maps.keyOf_int_mk Tryz.underlying5 (by decide)) _ [] rfl ?_; clear hown; intro w1 hown hg1; replace hz := Nat.lt_of_lt_of_le hz hg1.size; replace hB := hB.grown hg1 (by have := hB.size; omega) (fun k e => by cases e; exact Nat.le_refl _); clear hg1)
 go_ret
 exact ⟨rfl, hown, hB, hz⟩
end Go.Proofs.YtlmdhlckgbgfhaaGreatDoor
namespace Go.Proofs.YtlmdhlckgbgfhaaGreatDoor
open Go.RowKit

def operB (s : ByteArray) (m : Nat) : Bool :=
 if s.toList == [45] then decide (m = 1) || decide (m = 2) else (s.toList == [43] || s.toList == [42] || s.toList == [47] || s.toList == [92]) && decide (m = 2)

def reqB (k : Int) (n : Int) (s : ByteArray) (m : Nat) : Bool :=
 if k = 1 then decide (-2147483647 ≤ n) && decide (n ≤ 2147483647) && s.toList.isEmpty && decide (m = 0)
 else if k = 2 then decide (n = 0) && decide (m = 0) && symbolB s
 else if k = 3 then decide (n = 0) && decide (m = 0) && variableB s
 else if k = 4 then decide (n = 0) && decide (1 ≤ m) && decide (m ≤ 8) && symbolB s
 else if k = 5 then decide (n = 0) && operB s m
 else if k = 6 then decide (n = 0) && s.toList.isEmpty && decide (m = 2)
 else false

theorem req1 (k n lv : Int) (s : ByteArray) (a : Option Addr) (m cap : Nat) (w : World) (hm : m ≤ maxLen) :
   Calls Tryz.prog 42 #[.agg #[.int .u8 k, .int .i64 n, .string s, .slice a m cap, .int .i64 lv]] w fun e w' => e = .returned (.bool (reqB 1 n s m)) ∧ w' = w.alloc (.cells #[.int .u8 k, .int .i64 n, .string s, .slice a m cap, .int .i64 lv] 62) := by
 unfold maxLen at hm
 have hr : reqB 1 n s m = (decide (-2147483647 ≤ n) && decide (n ≤ 2147483647) && s.toList.isEmpty && decide (m = 0)) := rfl
 have HR := Hi hr; clear hr
 by_cases h1 : -2147483647 ≤ n <;> by_cases h2 : n ≤ 2147483647 <;> cases h3 : s.toList.isEmpty <;> by_cases h4 : m = 0
 all_goals try (exfalso; omega)
 all_goals
   have H1 := Hi h1
   have H2 := Hi h2
   have H3 := Hi h3
   have H4 := Hi h4
   first | subst h4 | (have h5 : ((m : Int) == 0) = false := by simpa using h4)
   go_enter Tryz.func42, Tryz.ntmps42
   go_wp2
   go_ret
   exact ⟨by rw [HR.out]; simp [H1.out, H2.out, H3.out, H4.out], rfl⟩
theorem req2 (k n lv : Int) (s : ByteArray) (a : Option Addr) (m cap : Nat) (w : World) (hm : m ≤ maxLen) (hs : s.size ≤ maxLen) :
   Calls Tryz.prog 43 #[.agg #[.int .u8 k, .int .i64 n, .string s, .slice a m cap, .int .i64 lv]] w fun e w' => e = .returned (.bool (reqB 2 n s m)) ∧ w' = w.alloc (.cells #[.int .u8 k, .int .i64 n, .string s, .slice a m cap, .int .i64 lv] 62) := by
 unfold maxLen at hm
 have hr : reqB 2 n s m = (decide (n = 0) && decide (m = 0) && symbolB s) := rfl
 have HR := Hi hr; clear hr
 by_cases h1 : n = 0 <;> by_cases h4 : m = 0
 all_goals
   have H1 := Hi h1
   have H4 := Hi h4
   first | subst h1 | (have h6 : (n == 0) = false := by simpa using h1)
   first | subst h4 | (have h5 : ((m : Int) == 0) = false := by simpa using h4)
   go_enter Tryz.func43, Tryz.ntmps43
   go_wp2_with (go_at_call 44; refine (symbol_any _ _ hs).mono ?_; rintro e w' ⟨rfl, rfl⟩)
   go_ret
   exact ⟨by rw [HR.out]; simp [H1.out, H4.out], rfl⟩
theorem req3 (k n lv : Int) (s : ByteArray) (a : Option Addr) (m cap : Nat) (w : World) (hm : m ≤ maxLen) (hs : s.size ≤ maxLen) :
   Calls Tryz.prog 45 #[.agg #[.int .u8 k, .int .i64 n, .string s, .slice a m cap, .int .i64 lv]] w fun e w' => e = .returned (.bool (reqB 3 n s m)) ∧ w' = w.alloc (.cells #[.int .u8 k, .int .i64 n, .string s, .slice a m cap, .int .i64 lv] 62) := by
 unfold maxLen at hm
 have hr : reqB 3 n s m = (decide (n = 0) && decide (m = 0) && variableB s) := rfl
 have HR := Hi hr; clear hr
 by_cases h1 : n = 0 <;> by_cases h4 : m = 0
 all_goals
   have H1 := Hi h1
   have H4 := Hi h4
   first | subst h1 | (have h6 : (n == 0) = false := by simpa using h1)
   first | subst h4 | (have h5 : ((m : Int) == 0) = false := by simpa using h4)
   go_enter Tryz.func45, Tryz.ntmps45
   go_wp2_with (go_at_call 27; refine (variable_any _ _ hs).mono ?_; rintro e w' ⟨rfl, rfl⟩)
   go_ret
   exact ⟨by rw [HR.out]; simp [H1.out, H4.out], rfl⟩
theorem req4 (k n lv : Int) (s : ByteArray) (a : Option Addr) (m cap : Nat) (w : World) (hm : m ≤ maxLen) (hs : s.size ≤ maxLen) :
   Calls Tryz.prog 46 #[.agg #[.int .u8 k, .int .i64 n, .string s, .slice a m cap, .int .i64 lv]] w fun e w' => e = .returned (.bool (reqB 4 n s m)) ∧ w' = w.alloc (.cells #[.int .u8 k, .int .i64 n, .string s, .slice a m cap, .int .i64 lv] 62) := by
 unfold maxLen at hm
 have hr : reqB 4 n s m = (decide (n = 0) && decide (1 ≤ m) && decide (m ≤ 8) && symbolB s) := rfl
 have HR := Hi hr; clear hr
 by_cases h1 : n = 0 <;> by_cases h2 : 1 ≤ m <;> by_cases h4 : m ≤ 8
 all_goals try (exfalso; omega)
 all_goals
   have H1 := Hi h1
   have H2 := Hi h2
   have H4 := Hi h4
   first | subst h1 | (have h6 : (n == 0) = false := by simpa using h1)
   go_enter Tryz.func46, Tryz.ntmps46
   go_wp2_with (go_at_call 44; refine (symbol_any _ _ hs).mono ?_; rintro e w' ⟨rfl, rfl⟩)
   go_ret
   exact ⟨by rw [HR.out]; simp [H1.out, H2.out, H4.out], rfl⟩
theorem req6 (k n lv : Int) (s : ByteArray) (a : Option Addr) (m cap : Nat) (w : World) (hm : m ≤ maxLen) :
   Calls Tryz.prog 49 #[.agg #[.int .u8 k, .int .i64 n, .string s, .slice a m cap, .int .i64 lv]] w fun e w' => e = .returned (.bool (reqB 6 n s m)) ∧ w' = w.alloc (.cells #[.int .u8 k, .int .i64 n, .string s, .slice a m cap, .int .i64 lv] 62) := by
 unfold maxLen at hm
 have hr : reqB 6 n s m = (decide (n = 0) && s.toList.isEmpty && decide (m = 2)) := rfl
 have HR := Hi hr; clear hr
 by_cases h1 : n = 0 <;> cases h3 : s.toList.isEmpty <;> by_cases h4 : m = 2
 all_goals
   have H1 := Hi h1
   have H3 := Hi h3
   have H4 := Hi h4
   first | subst h1 | (have h6 : (n == 0) = false := by simpa using h1)
   first | subst h4 | (have h5 : ((m : Int) == 2) = false := by rw [beq_eq_false_iff_ne]; omega)
   go_enter Tryz.func49, Tryz.ntmps49
   go_wp2
   go_ret
   exact ⟨by rw [HR.out]; simp [H1.out, H3.out, H4.out], rfl⟩

theorem operator_any (s : ByteArray) (m : Nat) (w : World) (hm : m ≤ maxLen) :
   Calls Tryz.prog 48 #[.string s, .int .i64 m] w fun e w' => e = .returned (.bool (operB s m)) ∧ w = w' := by
 unfold maxLen at hm
 have hr : operB s m = (if s.toList == [45] then decide (m = 1) || decide (m = 2) else (s.toList == [43] || s.toList == [42] || s.toList == [47] || s.toList == [92]) && decide (m = 2)) := rfl
 have HR := Hi hr; clear hr
 have hc : m = 1 ∨ m = 2 ∨ (m ≠ 1 ∧ m ≠ 2) := by omega
 cases e1 : s.toList == [45] <;> cases e2 : s.toList == [43] <;> cases e3 : s.toList == [42] <;> cases e4 : s.toList == [47] <;> cases e5 : s.toList == [92]
 all_goals try (exfalso; simp only [beq_iff_eq] at e1 e2 e3 e4 e5; simp_all; done)
 all_goals
   have E1 := Hi e1
   have E2 := Hi e2
   have E3 := Hi e3
   have E4 := Hi e4
   have E5 := Hi e5
   rcases hc with rfl | rfl | ⟨h1, h2⟩
   · go_enter Tryz.func48, Tryz.ntmps48
     go_wp2
     go_ret
     exact ⟨by rw [HR.out, E1.out, E2.out, E3.out, E4.out, E5.out]; rfl, rfl⟩
   · go_enter Tryz.func48, Tryz.ntmps48
     go_wp2
     go_ret
     exact ⟨by rw [HR.out, E1.out, E2.out, E3.out, E4.out, E5.out]; rfl, rfl⟩
   · have g1 : ((m : Int) == 1) = false := by rw [beq_eq_false_iff_ne]; omega
     have g2 : ((m : Int) == 2) = false := by rw [beq_eq_false_iff_ne]; omega
     have H1 := Hi h1
     have H2 := Hi h2
     clear h1 h2
     go_enter Tryz.func48, Tryz.ntmps48
     go_wp2
     go_ret
     exact ⟨by rw [HR.out, E1.out, E2.out, E3.out, E4.out, E5.out]; simp [H1.out, H2.out], rfl⟩

theorem req5B (n : Int) (s : ByteArray) (m : Nat) : reqB 5 n s m = (decide (n = 0) && operB s m) := rfl

theorem req5 (k n lv : Int) (s : ByteArray) (a : Option Addr) (m cap : Nat) (w : World) (hm : m ≤ maxLen) :
   Calls Tryz.prog 47 #[.agg #[.int .u8 k, .int .i64 n, .string s, .slice a m cap, .int .i64 lv]] w fun e w' => e = .returned (.bool (reqB 5 n s m)) ∧ w' = w.alloc (.cells #[.int .u8 k, .int .i64 n, .string s, .slice a m cap, .int .i64 lv] 62) := by
 have HM := Hi hm
 have HR := Hi (req5B n s m)
 by_cases h1 : n = 0
 all_goals
   have H1 := Hi h1
   first | subst h1 | (have h6 : (n == 0) = false := by simpa using h1)
   go_enter Tryz.func47, Tryz.ntmps47
   go_wp2_with (go_at_call 48; refine (operator_any _ _ _ HM.out).mono ?_; rintro e w' ⟨rfl, rfl⟩)
   go_ret
   exact ⟨by rw [HR.out]; simp [H1.out], rfl⟩
end Go.Proofs.YtlmdhlckgbgfhaaGreatDoor
namespace Go.Proofs.YtlmdhlckgbgfhaaGreatDoor
open Go.RowKit Go.Shelf Go.Maps
attribute [local go_sem] Oper.semAt_some

def nodeOkB (x : Tm × Nat) : Bool := decide (x.2 ≤ 12) && reqB x.1.kind x.1.num x.1.name x.1.args.length
def Tm.validB (t : Tm) : Bool := (t.nodes 1).all nodeOkB

theorem fnElem_inv {v : Value} {f : Nat} {ps : List MemPlace} (h : fnElem (H := Unit) v = some (.lit (.int .i64 f), ps)) : v = .func (.func f) #[] #[] := by
 unfold fnElem at h
 split at h
 · split at h
   · rename_i f' a b hab
     obtain ⟨rfl, rfl⟩ := hab
     simp only [Option.some.injEq, Prod.mk.injEq, DataW.lit.injEq, Lit.int.injEq, true_and] at h
     have e := h.1
     simp only [Int.natCast_inj] at e
     rw [e]
   · cases h
 · simp at h
 · cases h
theorem req_none {k : Int} (h : ¬ (1 ≤ k ∧ k ≤ 6)) : Maps.has reqD (.int .u8 k) = false := by
 simp only [reqD, Maps.has, List.any_cons, List.any_nil, Lit.sameKey, Bool.or_false]
 simp; omega
theorem reqB_none {k n : Int} {s : ByteArray} {m : Nat} (h : ¬ (1 ≤ k ∧ k ≤ 6)) : reqB k n s m = false := by
 unfold reqB
 rw [if_neg (by omega), if_neg (by omega), if_neg (by omega), if_neg (by omega), if_neg (by omega), if_neg (by omega)]

theorem valid_in (t : Tm) (c0 c1 c2 c3 : Value) (w : World) (ht : IsTm w.heap.size w c0 c1 c2 c3 t) (hdep : t.depth < 4611686018427387900) :
   CallsIn Fence.wide 8 Tryz.prog 7 #[.agg #[c0, c1, c2, c3]] w fun e w' => e = .returned (.bool t.validB) ∧ Below w.heap.size w w' := by
 have hd : Fence.wide.depth = none := rfl
 have hro : Fence.wide.round = none := rfl
 have hdd : ∀ k : Nat, (Fence.wide.depth.isSome = true → 1 ≤ k) := fun k h => by rw [hd] at h; cases h
 have hg : t.validB = (t.nodes 1).all nodeOkB := rfl
 have HG := Hi hg; clear hg
 refine callsIn_of_wp_marks Tryz.func7 rfl trivial ?_ hro
 simp only [Tryz.ntmps7, List.size_toArray, List.length_cons, List.length_nil, Nat.reduceAdd, Nat.reduceSub, Array.replicate_succ, Array.replicate_zero, List.push_toArray, List.append_toArray, List.nil_append, List.cons_append]
 gi_wp2_with (refine ⟨trivial, ?_⟩; gi_at_call 25; refine (callsIn_wide.2 (req_any _)).mono ?_)
 rintro e w1 ⟨rfl, hown, hB1, hz1⟩
 simp only [World.size_alloc] at hown hB1 hz1 ⊢
 have hBw : Below w.heap.size w w1 := (((Below.refl _ w).alloc (Nat.le_refl _) _).alloc (by simp) _).trans (hB1.mono (by omega))
 have hb1 : w1.heap[w.heap.size]? = some (.cells #[c0, c1, c2, c3] 24 (0, 0)) :=
   (hB1.block _ (by omega)).trans ((Below.heap_alloc _ _ _ (by simp)).trans (World.alloc_heap_new w _))
 have hbr : Boxed w1 (w.heap.size + 1) 4 (.bool false) := by
   refine (hB1.block _ (by omega)).trans ?_
   have := Boxed.new (w.alloc (.cells #[c0, c1, c2, c3] 24)) 4 (.bool false)
   rw [World.size_alloc] at this; exact this
 have g0 := cells_at hb1 0 c0 rfl
 have g1 := cells_at hb1 1 c1 rfl
 have g2 := cells_at hb1 2 c2 rfl
 have g3 := cells_at hb1 3 c3 rfl
 have hlt0 : w.heap.size < w1.heap.size := by omega
 have hne0 : ¬ w.heap.size = w1.heap.size := by omega
 gi_wp2_with (refine ⟨trivial, ?_⟩; gi_at_call 26; refine (subterms_in Fence.wide 7 trivial hro _ _ _ _ _).mono ?_; rintro e w' ⟨rfl, rfl⟩)
 obtain ⟨es, clock, hmb, hFt, hes, hD⟩ := hown
 have HFt := Hi hFt; clear hFt
 have HD := Hi hD; clear hD
 obtain ⟨W0, hW0⟩ : ∃ W0, (w1.alloc (.cells #[.map (some (w.heap.size + 1 + 1))] 56)).alloc (.cells #[c0, c1, c2, c3] 24) = W0 := ⟨_, rfl⟩
 have hsz : W0.heap.size = w1.heap.size + 2 := by rw [← hW0]; simp
 have hb0 : Below w.heap.size w W0 := by rw [← hW0]; exact (hBw.alloc (by omega) _).alloc (by simp; omega) _
 have hbd : Boxed W0 (w.heap.size + 1) 4 (.bool false) := by rw [← hW0]; exact (hbr.alloc _).alloc _
 have hbn : Boxed W0 w1.heap.size 56 (.map (some (w.heap.size + 1 + 1))) := by rw [← hW0]; exact (Boxed.new w1 _ _).alloc _
 have hm0 : W0.heap[w.heap.size + 1 + 1]? = some (.map es clock) := by
   rw [← hW0]; exact (Below.heap_alloc _ _ _ (by simp; omega)).trans ((Below.heap_alloc _ _ _ (by omega)).trans hmb)
 have hbt : W0.heap[w1.heap.size + 1]? = some (.cells #[c0, c1, c2, c3] 24 (0, 0)) := by
   rw [← hW0]; have := World.alloc_heap_new (w1.alloc (.cells #[.map (some (w.heap.size + 1 + 1))] 56)) (.cells #[c0, c1, c2, c3] 24)
   rw [World.size_alloc] at this; exact this
 rw [hW0]
 clear hW0 hb1 hbr g0 g1 g2 g3 hmb
 refine wpIn_rangeFunc_ownH hro (by omega) (gf := 50) (lb := #[.pointer (some ⟨w1.heap.size + 1, 0, none⟩)]) rfl trivial (enters_of Tryz.func50 (by kernel_rfl) rfl)
   (subterms_stops Fence.wide hd 7 trivial trivial hro (w1.heap.size + 1) w.heap.size w W0 t c0 c1 c2 c3 (by omega) hb0 ht hdep hbt) Kept.trans
   (fun W l o o' hl h hc _ => Kept.putObj o' (by omega) (by have := (gL h); omega) h hc) bR (fun _ => rfl)
   (fun pre W => (Boxed W (w.heap.size + 1) 4 (.bool false) ∧ Boxed W w1.heap.size 56 (.map (some (w.heap.size + 1 + 1)))) ∧ (W.heap[w.heap.size + 1 + 1]? = some (.map es clock) ∧ Below w.heap.size w W ∧ W0.heap.size ≤ W.heap.size) ∧ pre.all (fun x => nodeOkB x.key) = true)
   (fun c pre W => (Boxed W (w.heap.size + 1) 4 (.bool false) ∧ Boxed W w1.heap.size 56 (.map (some (w.heap.size + 1 + 1)))) ∧ (W.heap[w.heap.size + 1 + 1]? = some (.map es clock) ∧ Below w.heap.size w W ∧ W0.heap.size ≤ W.heap.size) ∧ (c = .ret ∧ pre.all (fun x => nodeOkB x.key) = false))
   (OwnFrom.and (OwnFrom.and (Own.from (boxed_own _ _ fun _ => .bool false) _) (Own.from (boxed_own _ _ fun _ => .map (some (w.heap.size + 1 + 1))) _)) (OwnFrom.and (OwnFrom.and (fun _ X Y row hs hg hr => (hg.block _ (gL hs) (fun e => by have := (hr _ e.symm).1; omega)).trans hs) (OwnFrom.and (ownFrom_below (Nat.le_refl _) (by omega)) (fun _ _ _ _ hs hg _ => Nat.le_trans hs hg.size))) (ownFrom_pure _ _)))
   (fun c => OwnFrom.and (OwnFrom.and (Own.from (boxed_own _ _ fun _ => .bool false) _) (Own.from (boxed_own _ _ fun _ => .map (some (w.heap.size + 1 + 1))) _)) (OwnFrom.and (OwnFrom.and (fun _ X Y row hs hg hr => (hg.block _ (gL hs) (fun e => by have := (hr _ e.symm).1; omega)).trans hs) (OwnFrom.and (ownFrom_below (Nat.le_refl _) (by omega)) (fun _ _ _ _ hs hg _ => Nat.le_trans hs hg.size))) (ownFrom_pure _ (fun (pre : List (NdIn w.heap.size w)) => c = .ret ∧ pre.all (fun x => nodeOkB x.key) = false))))
   ⟨⟨hbd, hbn⟩, ⟨hm0, hb0, Nat.le_refl _⟩, rfl⟩
   (fun x a' W => ∃ Bx, W0.heap.size ≤ Bx ∧ W.heap[Bx]? = some (.cells #[x.1.c0, x.1.c1, x.1.c2, x.1.c3, .int .i64 x.1.l] 62 (0, 0)) ∧
     a' = { tmps := #[Value.agg #[c0, c1, c2, c3], Value.pointer (some { block := w.heap.size, off := 0 }), Value.pointer (some { block := w.heap.size + 1, off := 0 }), Value.pointer (some { block := w1.heap.size, off := 0 }),
         Value.pointer (some { block := Bx, off := 0 }), undef, undef, Value.map (some (w.heap.size + 1 + 1)), Value.agg #[c0, c1, c2, c3],
         Value.func (Fn.func 50) #[] #[Value.pointer (some { block := w1.heap.size + 1, off := 0 })], x.val, undef,
         undef, undef, undef, undef, undef, undef, undef, undef, undef, undef, undef, undef, undef, undef, undef, undef, undef, undef, undef, undef], defers := [] })
   (fun x a' s X Y row hs hg hr => by
     obtain ⟨Bx, h1, h2, h3⟩ := hs
     exact ⟨Bx, h1, cells_own Bx 62 (fun _ : Unit => #[x.1.c0, x.1.c1, x.1.c2, x.1.c3, .int .i64 x.1.l]) () X Y row h2 hg (fun r e => (hr r e).2), h3⟩) ?assign ?body ?done ?stop
 case assign =>
   rintro l pre ⟨⟨d0, d1, d2, d3, ⟨k', n', s', as'⟩, lv⟩, hx, hlv⟩ W K ⟨⟨hi1, hi1'⟩, ⟨him, hi2, hiz⟩, hi3⟩ hK
   have hx0 := hx
   simp only [IsTm] at hx
   obtain ⟨rfl, _, rfl, _, rfl, _, a', cap', rfl, _, _⟩ := hx
   have hK' := hK _ _ ((KeepsOthers.alloc _ _).from _) ((Kept.refl _ _ W).alloc (by omega) (.cells #[.int .u8 k', .int .i64 n', .string s', .slice a' as'.length cap', .int .i64 lv] 62)) ⟨⟨hi1.alloc _, hi1'.alloc _⟩, ⟨(Below.heap_alloc _ _ _ (by omega)).trans him, hi2.alloc (by omega) _, by simp; omega⟩, hi3⟩ ⟨W.heap.size, hiz, World.alloc_heap_new _ _, rfl⟩
   clear hK
   have HK := Hi hK'; clear hK' hi3
   simp only [NdIn.val]
   gi_wp2
   exact HK.out
 case body =>
   rintro l pre ⟨⟨d0, d1, d2, d3, ⟨k', n', s', as'⟩, lv⟩, hx, hlv⟩ a' W hl hrec ⟨⟨hi1, hi1'⟩, ⟨him, hi2, hiz⟩, hi3⟩ ⟨Bx, hBx, hbx, rfl⟩ hlt
   have hx0 := hx
   simp only [IsTm] at hx
   obtain ⟨rfl, hk, rfl, _, rfl, hs', a', cap', rfl, hm', _⟩ := hx
   simp only at hbx hlv
   have q0 := cells_at hbx 0 _ rfl
   have q1 := cells_at hbx 1 _ rfl
   have q2 := cells_at hbx 2 _ rfl
   have q3 := cells_at hbx 3 _ rfl
   have q4 := cells_at hbx 4 _ rfl
   have qd := hi1.cell
   have qf := hi1.frozen
   have qn := hi1'.cell
   have hlt1 : w.heap.size + 1 < W.heap.size := by omega
   have HI := Hi hi3; clear hi3
   have hown : W.ownsMap Tryz.prog 5 fnElem (w.heap.size + 1 + 1) 6 reqD := ⟨es, clock, him, HFt.out, hes, HD.out⟩
   have hz62 : ∀ w, (zeroValue 63).run Tryz.prog w = .ok .nilFunc w := fun _ => by kernel_rfl
   have hwf : (Lit.int .u8 k').wf = true := WalkArith.wf_u8 hk
   have hv : ∀ b, nodeOkB (.mk k' n' s' as', lv) = b → (pre ++ [(⟨⟨.int .u8 k', .int .i64 n', .string s', .slice a' as'.length cap', .mk k' n' s' as', lv⟩, hx0, hlv⟩ : NdIn w.heap.size w)]).all (fun x => nodeOkB x.key) = b := by
     intro b hb
     rw [List.all_append, HI.out]; simp only [List.all_cons, List.all_nil, NdIn.key, hb, Bool.true_and, Bool.and_true]
   have HV := Hi hv; clear hv
   have HX := Hi hx0
   have HM := Hi hm'
   have HS := Hi hs'
   have hnode : nodeOkB (.mk k' n' s' as', lv) = (decide (lv ≤ 12) && reqB k' n' s' as'.length) := rfl
   have HN := Hi hnode; clear hnode
   have HW := Hi hwf; clear hwf
   have HZ := Hi hz62; clear hz62
   have HO := Hi hown; clear hown
   have hcs : k' = 1 ∨ k' = 2 ∨ k' = 3 ∨ k' = 4 ∨ k' = 5 ∨ k' = 6 ∨ ¬ (1 ≤ k' ∧ k' ≤ 6) := by omega

   rcases hcs with rfl | rfl | rfl | rfl | rfl | rfl | hno
   · have hh : Maps.has reqD (.int .u8 1) = true := rfl
     by_cases hl12 : lv ≤ 12
     · cases hq : reqB 1 n' s' as'.length
       · have HQ := Hi (HV.out false (by rw [HN.out, hq, Bool.and_false]))
         gi_wp2_with (first | (gi_at_lookup; refine wpListIn_lookup_own_ok _ rfl _ _ 56 rfl 5 63 (Maps.int_keyed Tryz.underlying5) Tryz.underlying56 fnElem (HZ.out _) .nil [] rfl _ _ _ rfl HO.out (.int .u8 1) (.int .u8 1) rfl (Maps.keyOf_int_mk Tryz.underlying5 HW.out) ?_; intro v ps hv; obtain rfl := fnElem_inv (f := 42) hv; clear hv) | (refine ⟨trivial, ?_⟩; gi_at_call 42; refine (CallsIn.inRound l (callsIn_wide.2 (req1 _ _ _ _ _ _ _ _ HM.out))).mono ?_; rintro e W1 ⟨rfl, rfl⟩))
         exact ⟨((KeepsOthers.setCell _ _ _).trans (KeepsOthers.alloc _ _)).from _, ⟨(hi1.set _).alloc _, (hi1'.other (by omega) _).alloc _⟩, ⟨(Below.heap_alloc _ _ _ (by simp; omega)).trans ((Below.heap_setCell _ _ _ _ (by simp)).trans him), (hi2.setCell (p := ⟨w.heap.size + 1, 0, none⟩) (by simp) _).alloc (by simp; omega) _, by simp; omega⟩, rfl, HQ.out⟩
       · have HQ := Hi (HV.out true (by rw [HN.out, hq, decide_eq_true hl12]; rfl))
         gi_wp2_with (first | (gi_at_lookup; refine wpListIn_lookup_own_ok _ rfl _ _ 56 rfl 5 63 (Maps.int_keyed Tryz.underlying5) Tryz.underlying56 fnElem (HZ.out _) .nil [] rfl _ _ _ rfl HO.out (.int .u8 1) (.int .u8 1) rfl (Maps.keyOf_int_mk Tryz.underlying5 HW.out) ?_; intro v ps hv; obtain rfl := fnElem_inv (f := 42) hv; clear hv) | (refine ⟨trivial, ?_⟩; gi_at_call 42; refine (CallsIn.inRound l (callsIn_wide.2 (req1 _ _ _ _ _ _ _ _ HM.out))).mono ?_; rintro e W1 ⟨rfl, rfl⟩))
         exact ⟨(KeepsOthers.alloc _ _).from _, (Kept.refl _ _ _).alloc (by omega) _, ⟨hi1.alloc _, hi1'.alloc _⟩, ⟨(Below.heap_alloc _ _ _ (by omega)).trans him, hi2.alloc (by omega) _, by simp; omega⟩, HQ.out⟩
     · have HQ := Hi (HV.out false (by rw [HN.out, decide_eq_false hl12]; rfl))
       gi_wp2_with (first | (gi_at_lookup; refine wpListIn_lookup_own_ok _ rfl _ _ 56 rfl 5 63 (Maps.int_keyed Tryz.underlying5) Tryz.underlying56 fnElem (HZ.out _) .nil [] rfl _ _ _ rfl HO.out (.int .u8 1) (.int .u8 1) rfl (Maps.keyOf_int_mk Tryz.underlying5 HW.out) ?_; intro v ps hv; obtain rfl := fnElem_inv (f := 42) hv; clear hv) | (refine ⟨trivial, ?_⟩; gi_at_call 42; refine (CallsIn.inRound l (callsIn_wide.2 (req1 _ _ _ _ _ _ _ _ HM.out))).mono ?_; rintro e W1 ⟨rfl, rfl⟩))
       refine ⟨fun _ h => (by cases h), ?_⟩
       gi_wp2
       exact ⟨(KeepsOthers.setCell _ _ _).from _, ⟨hi1.set _, hi1'.other (by omega) _⟩, ⟨(Below.heap_setCell _ _ _ _ (by simp)).trans him, hi2.setCell (p := ⟨w.heap.size + 1, 0, none⟩) (by simp) _, by simp; omega⟩, rfl, HQ.out⟩
   · have hh : Maps.has reqD (.int .u8 2) = true := rfl
     by_cases hl12 : lv ≤ 12
     · cases hq : reqB 2 n' s' as'.length
       · have HQ := Hi (HV.out false (by rw [HN.out, hq, Bool.and_false]))
         gi_wp2_with (first | (gi_at_lookup; refine wpListIn_lookup_own_ok _ rfl _ _ 56 rfl 5 63 (Maps.int_keyed Tryz.underlying5) Tryz.underlying56 fnElem (HZ.out _) .nil [] rfl _ _ _ rfl HO.out (.int .u8 2) (.int .u8 2) rfl (Maps.keyOf_int_mk Tryz.underlying5 HW.out) ?_; intro v ps hv; obtain rfl := fnElem_inv (f := 43) hv; clear hv) | (refine ⟨trivial, ?_⟩; gi_at_call 43; refine (CallsIn.inRound l (callsIn_wide.2 (req2 _ _ _ _ _ _ _ _ HM.out HS.out))).mono ?_; rintro e W1 ⟨rfl, rfl⟩))
         exact ⟨((KeepsOthers.setCell _ _ _).trans (KeepsOthers.alloc _ _)).from _, ⟨(hi1.set _).alloc _, (hi1'.other (by omega) _).alloc _⟩, ⟨(Below.heap_alloc _ _ _ (by simp; omega)).trans ((Below.heap_setCell _ _ _ _ (by simp)).trans him), (hi2.setCell (p := ⟨w.heap.size + 1, 0, none⟩) (by simp) _).alloc (by simp; omega) _, by simp; omega⟩, rfl, HQ.out⟩
       · have HQ := Hi (HV.out true (by rw [HN.out, hq, decide_eq_true hl12]; rfl))
         gi_wp2_with (first | (gi_at_lookup; refine wpListIn_lookup_own_ok _ rfl _ _ 56 rfl 5 63 (Maps.int_keyed Tryz.underlying5) Tryz.underlying56 fnElem (HZ.out _) .nil [] rfl _ _ _ rfl HO.out (.int .u8 2) (.int .u8 2) rfl (Maps.keyOf_int_mk Tryz.underlying5 HW.out) ?_; intro v ps hv; obtain rfl := fnElem_inv (f := 43) hv; clear hv) | (refine ⟨trivial, ?_⟩; gi_at_call 43; refine (CallsIn.inRound l (callsIn_wide.2 (req2 _ _ _ _ _ _ _ _ HM.out HS.out))).mono ?_; rintro e W1 ⟨rfl, rfl⟩))
         exact ⟨(KeepsOthers.alloc _ _).from _, (Kept.refl _ _ _).alloc (by omega) _, ⟨hi1.alloc _, hi1'.alloc _⟩, ⟨(Below.heap_alloc _ _ _ (by omega)).trans him, hi2.alloc (by omega) _, by simp; omega⟩, HQ.out⟩
     · have HQ := Hi (HV.out false (by rw [HN.out, decide_eq_false hl12]; rfl))
       gi_wp2_with (first | (gi_at_lookup; refine wpListIn_lookup_own_ok _ rfl _ _ 56 rfl 5 63 (Maps.int_keyed Tryz.underlying5) Tryz.underlying56 fnElem (HZ.out _) .nil [] rfl _ _ _ rfl HO.out (.int .u8 2) (.int .u8 2) rfl (Maps.keyOf_int_mk Tryz.underlying5 HW.out) ?_; intro v ps hv; obtain rfl := fnElem_inv (f := 43) hv; clear hv) | (refine ⟨trivial, ?_⟩; gi_at_call 43; refine (CallsIn.inRound l (callsIn_wide.2 (req2 _ _ _ _ _ _ _ _ HM.out HS.out))).mono ?_; rintro e W1 ⟨rfl, rfl⟩))
       refine ⟨fun _ h => (by cases h), ?_⟩
       gi_wp2
       exact ⟨(KeepsOthers.setCell _ _ _).from _, ⟨hi1.set _, hi1'.other (by omega) _⟩, ⟨(Below.heap_setCell _ _ _ _ (by simp)).trans him, hi2.setCell (p := ⟨w.heap.size + 1, 0, none⟩) (by simp) _, by simp; omega⟩, rfl, HQ.out⟩
   · have hh : Maps.has reqD (.int .u8 3) = true := rfl
     by_cases hl12 : lv ≤ 12
     · cases hq : reqB 3 n' s' as'.length
       · have HQ := Hi (HV.out false (by rw [HN.out, hq, Bool.and_false]))
         gi_wp2_with (first | (gi_at_lookup; refine wpListIn_lookup_own_ok _ rfl _ _ 56 rfl 5 63 (Maps.int_keyed Tryz.underlying5) Tryz.underlying56 fnElem (HZ.out _) .nil [] rfl _ _ _ rfl HO.out (.int .u8 3) (.int .u8 3) rfl (Maps.keyOf_int_mk Tryz.underlying5 HW.out) ?_; intro v ps hv; obtain rfl := fnElem_inv (f := 45) hv; clear hv) | (refine ⟨trivial, ?_⟩; gi_at_call 45; refine (CallsIn.inRound l (callsIn_wide.2 (req3 _ _ _ _ _ _ _ _ HM.out HS.out))).mono ?_; rintro e W1 ⟨rfl, rfl⟩))
         exact ⟨((KeepsOthers.setCell _ _ _).trans (KeepsOthers.alloc _ _)).from _, ⟨(hi1.set _).alloc _, (hi1'.other (by omega) _).alloc _⟩, ⟨(Below.heap_alloc _ _ _ (by simp; omega)).trans ((Below.heap_setCell _ _ _ _ (by simp)).trans him), (hi2.setCell (p := ⟨w.heap.size + 1, 0, none⟩) (by simp) _).alloc (by simp; omega) _, by simp; omega⟩, rfl, HQ.out⟩
       · have HQ := Hi (HV.out true (by rw [HN.out, hq, decide_eq_true hl12]; rfl))
         gi_wp2_with (first | (gi_at_lookup; refine wpListIn_lookup_own_ok _ rfl _ _ 56 rfl 5 63 (Maps.int_keyed Tryz.underlying5) Tryz.underlying56 fnElem (HZ.out _) .nil [] rfl _ _ _ rfl HO.out (.int .u8 3) (.int .u8 3) rfl (Maps.keyOf_int_mk Tryz.underlying5 HW.out) ?_; intro v ps hv; obtain rfl := fnElem_inv (f := 45) hv; clear hv) | (refine ⟨trivial, ?_⟩; gi_at_call 45; refine (CallsIn.inRound l (callsIn_wide.2 (req3 _ _ _ _ _ _ _ _ HM.out HS.out))).mono ?_; rintro e W1 ⟨rfl, rfl⟩))
         exact ⟨(KeepsOthers.alloc _ _).from _, (Kept.refl _ _ _).alloc (by omega) _, ⟨hi1.alloc _, hi1'.alloc _⟩, ⟨(Below.heap_alloc _ _ _ (by omega)).trans him, hi2.alloc (by omega) _, by simp; omega⟩, HQ.out⟩
     · have HQ := Hi (HV.out false (by rw [HN.out, decide_eq_false hl12]; rfl))
       gi_wp2_with (first | (gi_at_lookup; refine wpListIn_lookup_own_ok _ rfl _ _ 56 rfl 5 63 (Maps.int_keyed Tryz.underlying5) Tryz.underlying56 fnElem (HZ.out _) .nil [] rfl _ _ _ rfl HO.out (.int .u8 3) (.int .u8 3) rfl (Maps.keyOf_int_mk Tryz.underlying5 HW.out) ?_; intro v ps hv; obtain rfl := fnElem_inv (f := 45) hv; clear hv) | (refine ⟨trivial, ?_⟩; gi_at_call 45; refine (CallsIn.inRound l (callsIn_wide.2 (req3 _ _ _ _ _ _ _ _ HM.out HS.out))).mono ?_; rintro e W1 ⟨rfl, rfl⟩))
       refine ⟨fun _ h => (by cases h), ?_⟩
       gi_wp2
       exact ⟨(KeepsOthers.setCell _ _ _).from _, ⟨hi1.set _, hi1'.other (by omega) _⟩, ⟨(Below.heap_setCell _ _ _ _ (by simp)).trans him, hi2.setCell (p := ⟨w.heap.size + 1, 0, none⟩) (by simp) _, by simp; omega⟩, rfl, HQ.out⟩
   · have hh : Maps.has reqD (.int .u8 4) = true := rfl
     by_cases hl12 : lv ≤ 12
     · cases hq : reqB 4 n' s' as'.length
       · have HQ := Hi (HV.out false (by rw [HN.out, hq, Bool.and_false]))
         gi_wp2_with (first | (gi_at_lookup; refine wpListIn_lookup_own_ok _ rfl _ _ 56 rfl 5 63 (Maps.int_keyed Tryz.underlying5) Tryz.underlying56 fnElem (HZ.out _) .nil [] rfl _ _ _ rfl HO.out (.int .u8 4) (.int .u8 4) rfl (Maps.keyOf_int_mk Tryz.underlying5 HW.out) ?_; intro v ps hv; obtain rfl := fnElem_inv (f := 46) hv; clear hv) | (refine ⟨trivial, ?_⟩; gi_at_call 46; refine (CallsIn.inRound l (callsIn_wide.2 (req4 _ _ _ _ _ _ _ _ HM.out HS.out))).mono ?_; rintro e W1 ⟨rfl, rfl⟩))
         exact ⟨((KeepsOthers.setCell _ _ _).trans (KeepsOthers.alloc _ _)).from _, ⟨(hi1.set _).alloc _, (hi1'.other (by omega) _).alloc _⟩, ⟨(Below.heap_alloc _ _ _ (by simp; omega)).trans ((Below.heap_setCell _ _ _ _ (by simp)).trans him), (hi2.setCell (p := ⟨w.heap.size + 1, 0, none⟩) (by simp) _).alloc (by simp; omega) _, by simp; omega⟩, rfl, HQ.out⟩
       · have HQ := Hi (HV.out true (by rw [HN.out, hq, decide_eq_true hl12]; rfl))
         gi_wp2_with (first | (gi_at_lookup; refine wpListIn_lookup_own_ok _ rfl _ _ 56 rfl 5 63 (Maps.int_keyed Tryz.underlying5) Tryz.underlying56 fnElem (HZ.out _) .nil [] rfl _ _ _ rfl HO.out (.int .u8 4) (.int .u8 4) rfl (Maps.keyOf_int_mk Tryz.underlying5 HW.out) ?_; intro v ps hv; obtain rfl := fnElem_inv (f := 46) hv; clear hv) | (refine ⟨trivial, ?_⟩; gi_at_call 46; refine (CallsIn.inRound l (callsIn_wide.2 (req4 _ _ _ _ _ _ _ _ HM.out HS.out))).mono ?_; rintro e W1 ⟨rfl, rfl⟩))
         exact ⟨(KeepsOthers.alloc _ _).from _, (Kept.refl _ _ _).alloc (by omega) _, ⟨hi1.alloc _, hi1'.alloc _⟩, ⟨(Below.heap_alloc _ _ _ (by omega)).trans him, hi2.alloc (by omega) _, by simp; omega⟩, HQ.out⟩
     · have HQ := Hi (HV.out false (by rw [HN.out, decide_eq_false hl12]; rfl))
       gi_wp2_with (first | (gi_at_lookup; refine wpListIn_lookup_own_ok _ rfl _ _ 56 rfl 5 63 (Maps.int_keyed Tryz.underlying5) Tryz.underlying56 fnElem (HZ.out _) .nil [] rfl _ _ _ rfl HO.out (.int .u8 4) (.int .u8 4) rfl (Maps.keyOf_int_mk Tryz.underlying5 HW.out) ?_; intro v ps hv; obtain rfl := fnElem_inv (f := 46) hv; clear hv) | (refine ⟨trivial, ?_⟩; gi_at_call 46; refine (CallsIn.inRound l (callsIn_wide.2 (req4 _ _ _ _ _ _ _ _ HM.out HS.out))).mono ?_; rintro e W1 ⟨rfl, rfl⟩))
       refine ⟨fun _ h => (by cases h), ?_⟩
       gi_wp2
       exact ⟨(KeepsOthers.setCell _ _ _).from _, ⟨hi1.set _, hi1'.other (by omega) _⟩, ⟨(Below.heap_setCell _ _ _ _ (by simp)).trans him, hi2.setCell (p := ⟨w.heap.size + 1, 0, none⟩) (by simp) _, by simp; omega⟩, rfl, HQ.out⟩
   · have hh : Maps.has reqD (.int .u8 5) = true := rfl
     by_cases hl12 : lv ≤ 12
     · cases hq : reqB 5 n' s' as'.length
       · have HQ := Hi (HV.out false (by rw [HN.out, hq, Bool.and_false]))
         gi_wp2_with (first | (gi_at_lookup; refine wpListIn_lookup_own_ok _ rfl _ _ 56 rfl 5 63 (Maps.int_keyed Tryz.underlying5) Tryz.underlying56 fnElem (HZ.out _) .nil [] rfl _ _ _ rfl HO.out (.int .u8 5) (.int .u8 5) rfl (Maps.keyOf_int_mk Tryz.underlying5 HW.out) ?_; intro v ps hv; obtain rfl := fnElem_inv (f := 47) hv; clear hv) | (refine ⟨trivial, ?_⟩; gi_at_call 47; refine (CallsIn.inRound l (callsIn_wide.2 (req5 _ _ _ _ _ _ _ _ HM.out))).mono ?_; rintro e W1 ⟨rfl, rfl⟩))
         exact ⟨((KeepsOthers.setCell _ _ _).trans (KeepsOthers.alloc _ _)).from _, ⟨(hi1.set _).alloc _, (hi1'.other (by omega) _).alloc _⟩, ⟨(Below.heap_alloc _ _ _ (by simp; omega)).trans ((Below.heap_setCell _ _ _ _ (by simp)).trans him), (hi2.setCell (p := ⟨w.heap.size + 1, 0, none⟩) (by simp) _).alloc (by simp; omega) _, by simp; omega⟩, rfl, HQ.out⟩
       · have HQ := Hi (HV.out true (by rw [HN.out, hq, decide_eq_true hl12]; rfl))
         gi_wp2_with (first | (gi_at_lookup; refine wpListIn_lookup_own_ok _ rfl _ _ 56 rfl 5 63 (Maps.int_keyed Tryz.underlying5) Tryz.underlying56 fnElem (HZ.out _) .nil [] rfl _ _ _ rfl HO.out (.int .u8 5) (.int .u8 5) rfl (Maps.keyOf_int_mk Tryz.underlying5 HW.out) ?_; intro v ps hv; obtain rfl := fnElem_inv (f := 47) hv; clear hv) | (refine ⟨trivial, ?_⟩; gi_at_call 47; refine (CallsIn.inRound l (callsIn_wide.2 (req5 _ _ _ _ _ _ _ _ HM.out))).mono ?_; rintro e W1 ⟨rfl, rfl⟩))
         exact ⟨(KeepsOthers.alloc _ _).from _, (Kept.refl _ _ _).alloc (by omega) _, ⟨hi1.alloc _, hi1'.alloc _⟩, ⟨(Below.heap_alloc _ _ _ (by omega)).trans him, hi2.alloc (by omega) _, by simp; omega⟩, HQ.out⟩
     · have HQ := Hi (HV.out false (by rw [HN.out, decide_eq_false hl12]; rfl))
       gi_wp2_with (first | (gi_at_lookup; refine wpListIn_lookup_own_ok _ rfl _ _ 56 rfl 5 63 (Maps.int_keyed Tryz.underlying5) Tryz.underlying56 fnElem (HZ.out _) .nil [] rfl _ _ _ rfl HO.out (.int .u8 5) (.int .u8 5) rfl (Maps.keyOf_int_mk Tryz.underlying5 HW.out) ?_; intro v ps hv; obtain rfl := fnElem_inv (f := 47) hv; clear hv) | (refine ⟨trivial, ?_⟩; gi_at_call 47; refine (CallsIn.inRound l (callsIn_wide.2 (req5 _ _ _ _ _ _ _ _ HM.out))).mono ?_; rintro e W1 ⟨rfl, rfl⟩))
       refine ⟨fun _ h => (by cases h), ?_⟩
       gi_wp2
       exact ⟨(KeepsOthers.setCell _ _ _).from _, ⟨hi1.set _, hi1'.other (by omega) _⟩, ⟨(Below.heap_setCell _ _ _ _ (by simp)).trans him, hi2.setCell (p := ⟨w.heap.size + 1, 0, none⟩) (by simp) _, by simp; omega⟩, rfl, HQ.out⟩
   · have hh : Maps.has reqD (.int .u8 6) = true := rfl
     by_cases hl12 : lv ≤ 12
     · cases hq : reqB 6 n' s' as'.length
       · have HQ := Hi (HV.out false (by rw [HN.out, hq, Bool.and_false]))
         gi_wp2_with (first | (gi_at_lookup; refine wpListIn_lookup_own_ok _ rfl _ _ 56 rfl 5 63 (Maps.int_keyed Tryz.underlying5) Tryz.underlying56 fnElem (HZ.out _) .nil [] rfl _ _ _ rfl HO.out (.int .u8 6) (.int .u8 6) rfl (Maps.keyOf_int_mk Tryz.underlying5 HW.out) ?_; intro v ps hv; obtain rfl := fnElem_inv (f := 49) hv; clear hv) | (refine ⟨trivial, ?_⟩; gi_at_call 49; refine (CallsIn.inRound l (callsIn_wide.2 (req6 _ _ _ _ _ _ _ _ HM.out))).mono ?_; rintro e W1 ⟨rfl, rfl⟩))
         exact ⟨((KeepsOthers.setCell _ _ _).trans (KeepsOthers.alloc _ _)).from _, ⟨(hi1.set _).alloc _, (hi1'.other (by omega) _).alloc _⟩, ⟨(Below.heap_alloc _ _ _ (by simp; omega)).trans ((Below.heap_setCell _ _ _ _ (by simp)).trans him), (hi2.setCell (p := ⟨w.heap.size + 1, 0, none⟩) (by simp) _).alloc (by simp; omega) _, by simp; omega⟩, rfl, HQ.out⟩
       · have HQ := Hi (HV.out true (by rw [HN.out, hq, decide_eq_true hl12]; rfl))
         gi_wp2_with (first | (gi_at_lookup; refine wpListIn_lookup_own_ok _ rfl _ _ 56 rfl 5 63 (Maps.int_keyed Tryz.underlying5) Tryz.underlying56 fnElem (HZ.out _) .nil [] rfl _ _ _ rfl HO.out (.int .u8 6) (.int .u8 6) rfl (Maps.keyOf_int_mk Tryz.underlying5 HW.out) ?_; intro v ps hv; obtain rfl := fnElem_inv (f := 49) hv; clear hv) | (refine ⟨trivial, ?_⟩; gi_at_call 49; refine (CallsIn.inRound l (callsIn_wide.2 (req6 _ _ _ _ _ _ _ _ HM.out))).mono ?_; rintro e W1 ⟨rfl, rfl⟩))
         exact ⟨(KeepsOthers.alloc _ _).from _, (Kept.refl _ _ _).alloc (by omega) _, ⟨hi1.alloc _, hi1'.alloc _⟩, ⟨(Below.heap_alloc _ _ _ (by omega)).trans him, hi2.alloc (by omega) _, by simp; omega⟩, HQ.out⟩
     · have HQ := Hi (HV.out false (by rw [HN.out, decide_eq_false hl12]; rfl))
       gi_wp2_with (first | (gi_at_lookup; refine wpListIn_lookup_own_ok _ rfl _ _ 56 rfl 5 63 (Maps.int_keyed Tryz.underlying5) Tryz.underlying56 fnElem (HZ.out _) .nil [] rfl _ _ _ rfl HO.out (.int .u8 6) (.int .u8 6) rfl (Maps.keyOf_int_mk Tryz.underlying5 HW.out) ?_; intro v ps hv; obtain rfl := fnElem_inv (f := 49) hv; clear hv) | (refine ⟨trivial, ?_⟩; gi_at_call 49; refine (CallsIn.inRound l (callsIn_wide.2 (req6 _ _ _ _ _ _ _ _ HM.out))).mono ?_; rintro e W1 ⟨rfl, rfl⟩))
       refine ⟨fun _ h => (by cases h), ?_⟩
       gi_wp2
       exact ⟨(KeepsOthers.setCell _ _ _).from _, ⟨hi1.set _, hi1'.other (by omega) _⟩, ⟨(Below.heap_setCell _ _ _ _ (by simp)).trans him, hi2.setCell (p := ⟨w.heap.size + 1, 0, none⟩) (by simp) _, by simp; omega⟩, rfl, HQ.out⟩
   · have hh : Maps.has reqD (.int .u8 k') = false := req_none hno
     have HQ := Hi (HV.out false (by rw [HN.out, reqB_none hno, Bool.and_false]))
     clear hno
     by_cases hl12 : lv ≤ 12
     · gi_wp2_with (gi_at_lookup; refine wpListIn_lookup_own_ok _ rfl _ _ 56 rfl 5 63 (Maps.int_keyed Tryz.underlying5) Tryz.underlying56 fnElem (HZ.out _) .nil [] rfl _ _ _ rfl HO.out (.int .u8 k') (.int .u8 k') rfl (Maps.keyOf_int_mk Tryz.underlying5 HW.out) ?_; intro v ps hv; clear hv)
       refine ⟨fun _ h => (by cases h), ?_⟩
       gi_wp2
       exact ⟨(KeepsOthers.setCell _ _ _).from _, ⟨hi1.set _, hi1'.other (by omega) _⟩, ⟨(Below.heap_setCell _ _ _ _ (by simp)).trans him, hi2.setCell (p := ⟨w.heap.size + 1, 0, none⟩) (by simp) _, by simp; omega⟩, rfl, HQ.out⟩
     · gi_wp2_with (gi_at_lookup; refine wpListIn_lookup_own_ok _ rfl _ _ 56 rfl 5 63 (Maps.int_keyed Tryz.underlying5) Tryz.underlying56 fnElem (HZ.out _) .nil [] rfl _ _ _ rfl HO.out (.int .u8 k') (.int .u8 k') rfl (Maps.keyOf_int_mk Tryz.underlying5 HW.out) ?_; intro v ps hv; clear hv)
       refine ⟨fun _ h => (by cases h), ?_⟩
       gi_wp2
       exact ⟨(KeepsOthers.setCell _ _ _).from _, ⟨hi1.set _, hi1'.other (by omega) _⟩, ⟨(Below.heap_setCell _ _ _ _ (by simp)).trans him, hi2.setCell (p := ⟨w.heap.size + 1, 0, none⟩) (by simp) _, by simp; omega⟩, rfl, HQ.out⟩
 case done =>
   rintro D ys W hD hys ⟨⟨hbx, _⟩, ⟨_, hB, hz⟩, hall⟩ hK
   have hc := hbx.cell
   have hf := hbx.frozen
   have HE := Hi (all_of_pre (p := nodeOkB) hys hall); clear hys hall
   have hK' := (KeepsOthers.setCell W ⟨w.heap.size + 1, 0, none⟩ (.bool true)).same D _ hK rfl
   have hc5 := cell_kept (World.cell?_setCell_same' W ⟨w.heap.size + 1, 0, none⟩ (.bool true) (by rw [hc]; rfl)) (grownBy_putObj' _ D (.deferred none)) (fun r e => by cases e; exact ⟨_, hK', rfl⟩)
   have HC := Hi hc5; clear hc5
   gi_wp2
   refine ⟨by simp, .inl ⟨_, _, rfl, run_takeDeferred hK', ?_⟩⟩
   have hc5 := HC.out
   refine ⟨.bool true, ?_, by rw [HG.out, HE.out], ?_⟩
   · simp [results, Tryz.f7, go_sem, hc5]
   · exact (hB.setCell (p := ⟨w.heap.size + 1, 0, none⟩) (by simp) _).trans (belowK_b (w := w) (Nat.le_refl _) _ D _ _ (by omega) hK' rfl rfl)
 case stop =>
   rintro D c pre W hD hys ⟨⟨hbx, _⟩, ⟨_, hB, hz⟩, rfl, hall⟩ hK
   have hc := hbx.cell
   have hf := hbx.frozen
   have HE := Hi (not_all_of_pre (p := nodeOkB) hys hall); clear hys hall
   have hc5 := cell_kept hc (grownBy_putObj' _ D (.deferred none)) (fun r e => by cases e; exact ⟨_, hK, rfl⟩)
   have HC := Hi hc5; clear hc5
   gi_wp2
   refine ⟨by simp, .inl ⟨_, _, rfl, run_takeDeferred hK, ?_⟩⟩
   have hc5 := HC.out
   refine ⟨.bool false, ?_, by rw [HG.out, HE.out], ?_⟩
   · simp [results, Tryz.f7, go_sem, hc5]
   · exact hB.trans (belowK_b (w := w) (Nat.le_refl _) _ D _ _ (by omega) hK rfl rfl)

theorem valid_any (t : Tm) (c0 c1 c2 c3 : Value) (w : World) (ht : IsTm w.heap.size w c0 c1 c2 c3 t) (hdep : t.depth < 4611686018427387900) :
   Calls Tryz.prog 7 #[.agg #[c0, c1, c2, c3]] w fun e w' => e = .returned (.bool t.validB) ∧ Below w.heap.size w w' :=
 callsIn_wide.1 (valid_in t c0 c1 c2 c3 w ht hdep)
end Go.Proofs.YtlmdhlckgbgfhaaGreatDoor
namespace Go.Proofs.YtlmdhlckgbgfhaaGreatDoor
open Go.RowKit Go.Shelf
attribute [local go_sem] Oper.semAt_some

def plainB (x : Tm × Nat) : Bool := decide (x.1.kind = 1) || decide (x.1.kind = 2) || decide (x.1.kind = 4)
def preB {n₀ : Nat} {wt : World} (p : Tm × Nat → Bool) (pre : List (NdIn n₀ wt)) : Bool := pre.all fun x => p x.key
def Tm.valueB (t : Tm) : Bool := t.validB && (t.nodes 1).all plainB

theorem value_in (t : Tm) (c0 c1 c2 c3 : Value) (w : World) (ht : IsTm w.heap.size w c0 c1 c2 c3 t) (hdep : t.depth < 4611686018427387900) :
   CallsIn Fence.wide 8 Tryz.prog 28 #[.agg #[c0, c1, c2, c3]] w fun e w' => e = .returned (.bool t.valueB) ∧ Below w.heap.size w w' := by
 have hd : Fence.wide.depth = none := rfl
 have hro : Fence.wide.round = none := rfl
 have hg : t.valueB = (t.validB && (t.nodes 1).all plainB) := rfl
 have HG := Hi hg; clear hg
 have ht2 : IsTm (w.heap.size + 1 + 1) ((w.alloc (.cells #[c0, c1, c2, c3] 24)).alloc (.cells #[.bool false] 4)) c0 c1 c2 c3 t :=
   (ht.below (((Below.refl _ w).alloc (Nat.le_refl _) _).alloc (by simp) _)).mono (by omega)
 have HT2 := Hi ht2; clear ht2
 refine callsIn_of_wp_marks Tryz.func28 rfl trivial ?_ hro
 simp only [Tryz.ntmps28, List.size_toArray, List.length_cons, List.length_nil, Nat.reduceAdd, Nat.reduceSub, Array.replicate_succ, Array.replicate_zero, List.push_toArray, List.append_toArray, List.nil_append, List.cons_append]
 gi_wp2_with (refine ⟨trivial, ?_⟩; gi_at_call 7; refine (callsIn_wide.2 (valid_any t _ _ _ _ _ (by simpa using HT2.out) hdep)).mono ?_)
 rintro e w1 ⟨rfl, hB1⟩
 simp only [World.size_alloc] at hB1
 have hz1 := hB1.size
 simp only [World.size_alloc] at hz1
 have hBw : Below w.heap.size w w1 := (((Below.refl _ w).alloc (Nat.le_refl _) _).alloc (by simp) _).trans (hB1.mono (by omega))
 have hb1 : w1.heap[w.heap.size]? = some (.cells #[c0, c1, c2, c3] 24 (0, 0)) :=
   (hB1.block _ (by omega)).trans ((Below.heap_alloc _ _ _ (by simp)).trans (World.alloc_heap_new w _))
 have hbr : Boxed w1 (w.heap.size + 1) 4 (.bool false) := by
   refine (hB1.block _ (by omega)).trans ?_
   have := Boxed.new (w.alloc (.cells #[c0, c1, c2, c3] 24)) 4 (.bool false)
   rw [World.size_alloc] at this; exact this
 have hlt0 : w.heap.size < w1.heap.size := by omega
 have hlt1 : w.heap.size + 1 < w1.heap.size := by omega
 cases hvd : t.validB
 · have HVD := Hi hvd
   have qd := hbr.cell
   have qf := hbr.frozen
   have hc5 := World.cell?_setCell_same' w1 ⟨w.heap.size + 1, 0, none⟩ (.bool false) (by rw [qd]; rfl)
   have HC := Hi hc5; clear hc5
   gi_wp2
   have hc5 := HC.out
   refine ⟨.bool false, ?_, by rw [HG.out, HVD.out]; rfl, ?_⟩
   · simp [results, Tryz.f28, go_sem, hc5]
   · exact hBw.setCell (p := ⟨w.heap.size + 1, 0, none⟩) (by simp) _
 have HVD := Hi hvd
 have g0 := cells_at hb1 0 c0 rfl
 have g1 := cells_at hb1 1 c1 rfl
 have g2 := cells_at hb1 2 c2 rfl
 have g3 := cells_at hb1 3 c3 rfl
 gi_wp2_with (refine ⟨trivial, ?_⟩; gi_at_call 26; refine (subterms_in Fence.wide 7 trivial hro _ _ _ _ _).mono ?_; rintro e w' ⟨rfl, rfl⟩)
 obtain ⟨W0, hW0⟩ : ∃ W0, w1.alloc (.cells #[c0, c1, c2, c3] 24) = W0 := ⟨_, rfl⟩
 have hsz : W0.heap.size = w1.heap.size + 1 := by rw [← hW0]; simp
 have hb0 : Below w.heap.size w W0 := by rw [← hW0]; exact hBw.alloc (by omega) _
 have hbd : Boxed W0 (w.heap.size + 1) 4 (.bool false) := by rw [← hW0]; exact hbr.alloc _
 have hbt : W0.heap[w1.heap.size]? = some (.cells #[c0, c1, c2, c3] 24 (0, 0)) := by rw [← hW0]; exact World.alloc_heap_new w1 _
 rw [hW0]
 clear hW0 hb1 hbr g0 g1 g2 g3
 refine wpIn_rangeFunc_ownH hro (by omega) (gf := 50) (lb := #[.pointer (some ⟨w1.heap.size, 0, none⟩)]) rfl trivial (enters_of Tryz.func50 (by kernel_rfl) rfl)
   (subterms_stops Fence.wide hd 7 trivial trivial hro w1.heap.size w.heap.size w W0 t c0 c1 c2 c3 (by omega) hb0 ht hdep hbt) Kept.trans
   (fun W l o o' hl h hc _ => Kept.putObj o' (by omega) (by have := (gL h); omega) h hc) bR (fun _ => rfl)
   (fun pre W => Boxed W (w.heap.size + 1) 4 (.bool false) ∧ (Below w.heap.size w W ∧ W0.heap.size ≤ W.heap.size) ∧ preB plainB pre = true)
   (fun c pre W => Boxed W (w.heap.size + 1) 4 (.bool false) ∧ (Below w.heap.size w W ∧ W0.heap.size ≤ W.heap.size) ∧ (c = .ret ∧ preB plainB pre = false))
   (OwnFrom.and (Own.from (boxed_own _ _ fun _ => .bool false) _) (OwnFrom.and (OwnFrom.and (ownFrom_below (Nat.le_refl _) (by omega)) (fun _ _ _ _ hs hg _ => Nat.le_trans hs hg.size)) (ownFrom_pure _ _)))
   (fun c => OwnFrom.and (Own.from (boxed_own _ _ fun _ => .bool false) _) (OwnFrom.and (OwnFrom.and (ownFrom_below (Nat.le_refl _) (by omega)) (fun _ _ _ _ hs hg _ => Nat.le_trans hs hg.size)) (ownFrom_pure _ (fun (pre : List (NdIn w.heap.size w)) => c = .ret ∧ preB plainB pre = false))))
   ⟨hbd, ⟨hb0, Nat.le_refl _⟩, rfl⟩
   (fun x a' W => ∃ Bx, W0.heap.size ≤ Bx ∧ W.heap[Bx]? = some (.cells #[x.1.c0, x.1.c1, x.1.c2, x.1.c3, .int .i64 x.1.l] 62 (0, 0)) ∧
     a' = { tmps := #[Value.agg #[c0, c1, c2, c3], Value.pointer (some { block := w.heap.size, off := 0 }), Value.pointer (some { block := w.heap.size + 1, off := 0 }),
         Value.pointer (some { block := Bx, off := 0 }), Value.agg #[c0, c1, c2, c3], .bool true, .bool false, Value.agg #[c0, c1, c2, c3],
         Value.func (Fn.func 50) #[] #[Value.pointer (some { block := w1.heap.size, off := 0 })], x.val, undef, undef, undef, undef, undef, undef, undef, undef, undef, undef, undef, undef, undef, undef, undef, undef], defers := [] })
   (fun x a' s X Y row hs hg hr => by
     obtain ⟨Bx, h1, h2, h3⟩ := hs
     exact ⟨Bx, h1, cells_own Bx 62 (fun _ : Unit => #[x.1.c0, x.1.c1, x.1.c2, x.1.c3, .int .i64 x.1.l]) () X Y row h2 hg (fun r e => (hr r e).2), h3⟩) ?assign ?body ?done ?stop
 case assign =>
   rintro l pre ⟨⟨d0, d1, d2, d3, ⟨k', n', s', as'⟩, lv⟩, hx, hlv⟩ W K ⟨hi1, ⟨hi2, hiz⟩, hi3⟩ hK
   have hx0 := hx
   simp only [IsTm] at hx
   obtain ⟨rfl, _, rfl, _, rfl, _, a', cap', rfl, _, _⟩ := hx
   have hK' := hK _ _ ((KeepsOthers.alloc _ _).from _) ((Kept.refl _ _ W).alloc (by omega) (.cells #[.int .u8 k', .int .i64 n', .string s', .slice a' as'.length cap', .int .i64 lv] 62)) ⟨hi1.alloc _, ⟨hi2.alloc (by omega) _, by simp; omega⟩, hi3⟩ ⟨W.heap.size, hiz, World.alloc_heap_new _ _, rfl⟩
   clear hK
   have HK := Hi hK'; clear hK' hi3
   simp only [NdIn.val]
   gi_wp2
   exact HK.out
 case body =>
   rintro l pre ⟨⟨d0, d1, d2, d3, ⟨k', n', s', as'⟩, lv⟩, hx, hlv⟩ a' W hl hrec ⟨hi1, ⟨hi2, hiz⟩, hi3⟩ ⟨Bx, hBx, hbx, rfl⟩ hlt
   have hx0 := hx
   simp only [IsTm] at hx
   obtain ⟨rfl, _, rfl, _, rfl, _, a', cap', rfl, _, _⟩ := hx
   simp only at hbx hlv
   have q0 := cells_at hbx 0 _ rfl
   have qd := hi1.cell
   have qf := hi1.frozen
   have HI := Hi hi3; clear hi3
   have hv : ∀ b, plainB (.mk k' n' s' as', lv) = b → preB plainB (pre ++ [(⟨⟨.int .u8 k', .int .i64 n', .string s', .slice a' as'.length cap', .mk k' n' s' as', lv⟩, hx0, hlv⟩ : NdIn w.heap.size w)]) = b := by
     intro b hb
     have hI := HI.out
     unfold preB at hI ⊢
     rw [List.all_append, hI]; simp only [List.all_cons, List.all_nil, NdIn.key, hb, Bool.true_and, Bool.and_true]
   have HV := Hi hv; clear hv
   have hp : plainB (.mk k' n' s' as', lv) = (decide (k' = 1) || decide (k' = 2) || decide (k' = 4)) := rfl
   have HP := Hi hp; clear hp
   have hcs : k' = 1 ∨ k' = 2 ∨ k' = 4 ∨ (k' ≠ 1 ∧ k' ≠ 2 ∧ k' ≠ 4) := by omega
   rcases hcs with rfl | rfl | rfl | ⟨hk1, hk2, hk4⟩
   · have HQ := Hi (HV.out true (by rw [HP.out]; rfl))
     gi_wp2
     exact ⟨(KeepsOthers.refl _).from _, Kept.refl _ _ _, hi1, ⟨hi2, by omega⟩, HQ.out⟩
   · have HQ := Hi (HV.out true (by rw [HP.out]; rfl))
     gi_wp2
     exact ⟨(KeepsOthers.refl _).from _, Kept.refl _ _ _, hi1, ⟨hi2, by omega⟩, HQ.out⟩
   · have HQ := Hi (HV.out true (by rw [HP.out]; rfl))
     gi_wp2
     exact ⟨(KeepsOthers.refl _).from _, Kept.refl _ _ _, hi1, ⟨hi2, by omega⟩, HQ.out⟩
   · have HQ := Hi (HV.out false (by rw [HP.out]; simp [hk1, hk2, hk4]))
     have e1 : (k' != 1) = true := by simpa using hk1
     have e2 : (k' != 2) = true := by simpa using hk2
     have e4 : (k' != 4) = true := by simpa using hk4
     clear hk1 hk2 hk4
     gi_wp2
     exact ⟨(KeepsOthers.setCell _ _ _).from _, hi1.set _, ⟨hi2.setCell (p := ⟨w.heap.size + 1, 0, none⟩) (by simp) _, by simp; omega⟩, rfl, HQ.out⟩
 case done =>
   rintro D ys W hD hys ⟨hbx, ⟨hB, hz⟩, hall⟩ hK
   have hc := hbx.cell
   have hf := hbx.frozen
   have HE := Hi (all_of_pre (p := plainB) hys hall); clear hys hall
   have hK' := (KeepsOthers.setCell W ⟨w.heap.size + 1, 0, none⟩ (.bool true)).same D _ hK rfl
   have hc5 := cell_kept (World.cell?_setCell_same' W ⟨w.heap.size + 1, 0, none⟩ (.bool true) (by rw [hc]; rfl)) (grownBy_putObj' _ D (.deferred none)) (fun r e => by cases e; exact ⟨_, hK', rfl⟩)
   have HC := Hi hc5; clear hc5
   gi_wp2
   refine ⟨by simp, .inl ⟨_, _, rfl, run_takeDeferred hK', ?_⟩⟩
   have hc5 := HC.out
   refine ⟨.bool true, ?_, by rw [HG.out, HE.out, HVD.out]; rfl, ?_⟩
   · simp [results, Tryz.f28, go_sem, hc5]
   · exact (hB.setCell (p := ⟨w.heap.size + 1, 0, none⟩) (by simp) _).trans (belowK_b (w := w) (Nat.le_refl _) _ D _ _ (by omega) hK' rfl rfl)
 case stop =>
   rintro D c pre W hD hys ⟨hbx, ⟨hB, hz⟩, rfl, hall⟩ hK
   have hc := hbx.cell
   have hf := hbx.frozen
   have HE := Hi (not_all_of_pre (p := plainB) hys hall); clear hys hall
   have hc5 := cell_kept hc (grownBy_putObj' _ D (.deferred none)) (fun r e => by cases e; exact ⟨_, hK, rfl⟩)
   have HC := Hi hc5; clear hc5
   gi_wp2
   refine ⟨by simp, .inl ⟨_, _, rfl, run_takeDeferred hK, ?_⟩⟩
   have hc5 := HC.out
   refine ⟨.bool false, ?_, by rw [HG.out, HE.out, HVD.out]; rfl, ?_⟩
   · simp [results, Tryz.f28, go_sem, hc5]
   · exact hB.trans (belowK_b (w := w) (Nat.le_refl _) _ D _ _ (by omega) hK rfl rfl)

theorem value_any (t : Tm) (c0 c1 c2 c3 : Value) (w : World) (ht : IsTm w.heap.size w c0 c1 c2 c3 t) (hdep : t.depth < 4611686018427387900) :
   Calls Tryz.prog 28 #[.agg #[c0, c1, c2, c3]] w fun e w' => e = .returned (.bool t.valueB) ∧ Below w.heap.size w w' :=
 callsIn_wide.1 (value_in t c0 c1 c2 c3 w ht hdep)
end Go.Proofs.YtlmdhlckgbgfhaaGreatDoor
namespace Go.Proofs.YtlmdhlckgbgfhaaGreatDoor
open Go.RowKit

abbrev Bd := List (ByteArray × Tm)
def lessS (s t : ByteArray) : Bool := Op.bytesLess s.toList t.toList
theorem lessS_cmp {s t : ByteArray} : lessS s t = true ↔ strCmp s t = -1 := by
 unfold lessS strCmp
 split
 · simp [*]
 · split <;> simp [*]
theorem lessS_irrefl (s : ByteArray) : lessS s s = false := less_irrefl _
theorem lessS_trans {a b c : ByteArray} (h : lessS a b = true) (k : lessS b c = true) : lessS a c = true := by
 rw [lessS_cmp] at *
 rw [strCmp_eq] at *
 have ht := byC_tri a.toList b.toList c.toList (by omega) (by omega)
 have hs := byC_sg a.toList c.toList
 unfold Sg at hs
 have : byC a.toList c.toList ≠ 0 := fun e => by have := (ht.2.1 e).1; omega
 omega
theorem lessS_total {a b : ByteArray} (h : lessS a b = false) (k : a ≠ b) : lessS b a = true := by
 rw [lessS_cmp, strCmp_eq]
 have hn := byC_neg a.toList b.toList
 have hs := byC_sg a.toList b.toList
 have h1 : byC a.toList b.toList ≠ 0 := fun e => k (str_inj.1 (byC_zero.1 e))
 have h2 : byC a.toList b.toList ≠ -1 := fun e => by
   have : lessS a b = true := lessS_cmp.2 (by rw [strCmp_eq]; exact e)
   rw [h] at this; cases this
 unfold Sg at hs
 omega
theorem compareBytes_byC : ∀ x y : List UInt8, Lib.compareBytes x y = byC x y
 | [], [] => rfl
 | [], _ :: _ => rfl
 | _ :: _, [] => rfl
 | a :: x, b :: y => by
   rw [byC_cons]
   simp only [Lib.compareBytes]
   rw [compareBytes_byC x y]
   unfold orI Lib.compareInt
   by_cases h1 : a < b
   · have h2 : (a.toNat : Int) < b.toNat := by rw [UInt8.lt_iff_toNat_lt] at h1; omega
     rw [if_pos h1, if_pos h2]; rfl
   · have h2 : ¬ (a.toNat : Int) < b.toNat := by rw [UInt8.lt_iff_toNat_lt] at h1; omega
     rw [if_neg h1, if_neg h2]
     by_cases h3 : b < a
     · have h4 : (b.toNat : Int) < a.toNat := by rw [UInt8.lt_iff_toNat_lt] at h3; omega
       rw [if_pos h3, if_pos h4]; rfl
     · have h4 : ¬ (b.toNat : Int) < a.toNat := by rw [UInt8.lt_iff_toNat_lt] at h3; omega
       rw [if_neg h3, if_neg h4]; rfl
theorem compareBytes_str (s t : ByteArray) : Lib.compareBytes s.data.toList t.data.toList = strCmp s t := by
 rw [compareBytes_byC, strCmp_eq, ByteArray.toList_eq, ByteArray.toList_eq]

def Srt (b : Bd) : Prop := b.Pairwise fun x y => lessS x.1 y.1 = true
def stepB (b : Bd) (i : Nat) : Bool := match b[i]? with
 | some x => !((match i with
     | 0 => false
     | i + 1 => match b[i]? with
       | some y => !(lessS y.1 x.1)
       | none => false) || !(variableB x.1) || !(x.2.valueB))
 | none => true
def validBd (b : Bd) : Bool := (List.range b.length).all (stepB b)
theorem valid_spec {b : Bd} (h : validBd b = true) : Srt b ∧ ∀ x ∈ b, variableB x.1 = true ∧ x.2.valueB = true := by
 have hs : ∀ i, i < b.length → stepB b i = true := fun i hi => List.all_eq_true.1 h i (List.mem_range.2 hi)
 have hv : ∀ i (hi : i < b.length), variableB b[i].1 = true ∧ b[i].2.valueB = true := fun i hi => by
   have := hs i hi
   unfold stepB at this
   rw [List.getElem?_eq_getElem hi] at this
   simp only [Bool.not_or, Bool.not_not, Bool.and_eq_true] at this
   exact ⟨this.1.2, this.2⟩
 have ha : ∀ i (hi : i + 1 < b.length), lessS b[i].1 b[i + 1].1 = true := fun i hi => by
   have := hs (i + 1) hi
   unfold stepB at this
   rw [List.getElem?_eq_getElem hi] at this
   simp only [List.getElem?_eq_getElem (show i < b.length by omega), Bool.not_or, Bool.not_not, Bool.and_eq_true] at this
   exact this.1.1
 refine ⟨List.pairwise_iff_getElem.2 fun i j hi hj hij => ?_, fun x hx => ?_⟩
 · induction j with
   | zero => omega
   | succ j ih =>
     by_cases e : i = j
     · subst e; exact ha i hj
     · exact lessS_trans (ih (by omega) (by omega)) (ha j hj)
 · obtain ⟨i, hi, rfl⟩ := List.mem_iff_getElem.1 hx
   exact hv i hi
def lookB (b : Bd) (n : ByteArray) : Option Tm := (b.find? fun x => decide (x.1 = n)).map (·.2)
def idxB (b : Bd) (n : ByteArray) : Nat := (b.takeWhile fun x => lessS x.1 n).length
theorem idx_le (b : Bd) (n : ByteArray) : idxB b n ≤ b.length := (List.takeWhile_sublist _).length_le
theorem idx_spec : ∀ {b : Bd} {n : ByteArray}, Srt b → ∀ h (hh : h < b.length), lessS b[h].1 n = decide (h < idxB b n)
 | x :: r, n, hs, h, hh => by
   unfold Srt at hs
   rw [List.pairwise_cons] at hs
   unfold idxB
   by_cases hx : lessS x.1 n = true
   · rw [List.takeWhile_cons_of_pos (p := fun y : ByteArray × Tm => lessS y.1 n) hx, List.length_cons]
     cases h with
     | zero => simpa using hx
     | succ h =>
       have := idx_spec (b := r) (n := n) hs.2 h (by simpa using hh)
       rw [List.getElem_cons_succ, this]
       unfold idxB
       simp
   · rw [List.takeWhile_cons_of_neg (p := fun y : ByteArray × Tm => lessS y.1 n) hx]
     simp only [List.length_nil, Nat.not_lt_zero, decide_false]
     cases h with
     | zero => simpa using hx
     | succ h =>
       have hr : h < r.length := by simpa using hh
       rw [List.getElem_cons_succ]
       cases hq : lessS r[h].1 n with
       | false => rfl
       | true => exact absurd (lessS_trans (hs.1 _ (List.getElem_mem (by simpa using hh))) hq) hx
theorem look_at : ∀ {b : Bd} {n : ByteArray}, Srt b → ∀ i (h : i < b.length), b[i].1 = n → lookB b n = some b[i].2
 | x :: r, n, hs, i, h, e => by
   unfold Srt at hs
   rw [List.pairwise_cons] at hs
   unfold lookB
   cases i with
   | zero =>
     rw [List.find?_cons_of_pos (by simpa using e)]; rfl
   | succ i =>
     have hr : i < r.length := by simpa using h
     have hne : ¬ x.1 = n := fun e' => by
       have := hs.1 r[i] (List.getElem_mem (by simpa using h))
       rw [e', show r[i].1 = n from e, lessS_irrefl] at this; cases this
     rw [List.find?_cons_of_neg (by simpa using hne)]
     exact look_at hs.2 i (by simpa using h) e
theorem look_none {b : Bd} {n : ByteArray} : lookB b n = none ↔ ∀ x ∈ b, x.1 ≠ n := by
 unfold lookB
 rw [Option.map_eq_none_iff, List.find?_eq_none]
 simp
theorem look_mem {b : Bd} {n : ByteArray} {v : Tm} (h : lookB b n = some v) : (n, v) ∈ b := by
 unfold lookB at h
 rw [Option.map_eq_some_iff] at h
 obtain ⟨⟨m, u⟩, h1, rfl⟩ := h
 have h2 := List.find?_some h1
 have h3 := List.mem_of_find?_eq_some h1
 simp only [decide_eq_true_eq] at h2
 rw [← h2]; exact h3
theorem look_idx {b : Bd} {n : ByteArray} (hs : Srt b) : (∃ h : idxB b n < b.length, b[idxB b n].1 = n ∧ lookB b n = some b[idxB b n].2) ∨ (lookB b n = none ∧ ∀ h : idxB b n < b.length, b[idxB b n].1 ≠ n) := by
 by_cases h : ∃ h : idxB b n < b.length, b[idxB b n].1 = n
 · obtain ⟨h1, h2⟩ := h
   exact Or.inl ⟨h1, h2, look_at hs _ h1 h2⟩
 · refine Or.inr ⟨look_none.2 fun x hx e => h ?_, fun h1 h2 => h ⟨h1, h2⟩⟩
   obtain ⟨i, hi, rfl⟩ := List.mem_iff_getElem.1 hx
   have h1 := idx_spec (n := n) hs i hi
   rw [e, lessS_irrefl] at h1
   have h2 : idxB b n ≤ i := by have := of_decide_eq_false h1.symm; omega
   have h3 : idxB b n < b.length := by omega
   by_cases e2 : idxB b n = i
   · exact ⟨h3, by simp only [e2]; exact e⟩
   · have h4 := idx_spec (n := n) hs (idxB b n) h3
     rw [decide_eq_false (by omega)] at h4
     have h5 := List.pairwise_iff_getElem.1 hs (idxB b n) i h3 hi (by omega)
     rw [e, h4] at h5; cases h5
def insB (b : Bd) (n : ByteArray) (v : Tm) : Bd := b.take (idxB b n) ++ (n, v) :: b.drop (idxB b n)
theorem insB_length (b : Bd) (n : ByteArray) (v : Tm) : (insB b n v).length = b.length + 1 := by
 have := idx_le b n
 unfold insB
 simp
 omega
theorem insB_mem {b : Bd} {n : ByteArray} {v : Tm} {x : ByteArray × Tm} : x ∈ insB b n v ↔ x = (n, v) ∨ x ∈ b := by
 unfold insB
 rw [List.mem_append, List.mem_cons]
 constructor
 · rintro (h | h | h)
   · exact Or.inr (List.mem_of_mem_take h)
   · exact Or.inl h
   · exact Or.inr (List.mem_of_mem_drop h)
 · rintro (h | h)
   · exact Or.inr (Or.inl h)
   · rw [← List.take_append_drop (idxB b n) b] at h
     rcases List.mem_append.1 h with h | h
     · exact Or.inl h
     · exact Or.inr (Or.inr h)
theorem insB_srt {b : Bd} {n : ByteArray} {v : Tm} (hs : Srt b) (hn : lookB b n = none) : Srt (insB b n v) := by
 have hle := idx_le b n
 have h1 : ∀ x ∈ b.take (idxB b n), lessS x.1 n = true := fun x hx => by
   obtain ⟨i, hi, rfl⟩ := List.mem_iff_getElem.1 hx
   rw [List.length_take] at hi
   rw [List.getElem_take, idx_spec hs i (by omega)]
   exact decide_eq_true (by omega)
 have h2 : ∀ x ∈ b.drop (idxB b n), lessS n x.1 = true := fun x hx => by
   have hx0 := List.mem_of_mem_drop hx
   obtain ⟨i, hi, rfl⟩ := List.mem_iff_getElem.1 hx
   rw [List.length_drop] at hi
   rw [List.getElem_drop] at hx0 ⊢
   refine lessS_total ?_ (look_none.1 hn _ hx0)
   rw [idx_spec hs (idxB b n + i) (by omega)]
   exact decide_eq_false (by omega)
 unfold Srt insB
 rw [List.pairwise_append]
 refine ⟨hs.sublist (List.take_sublist _ _), List.pairwise_cons.2 ⟨fun x hx => h2 x hx, hs.sublist (List.drop_sublist _ _)⟩, fun x hx y hy => ?_⟩
 rcases List.mem_cons.1 hy with rfl | hy
 · exact h1 x hx
 · exact lessS_trans (h1 x hx) (h2 y hy)
def bindB (b : Bd) (n : ByteArray) (v : Tm) : Option Bd := match lookB b n with
 | some u => if Tm.cmp u v == 0 then some b else none
 | none => some (insB b n v)

def IsBs (B : Nat) (w : World) (b off : Nat) : Bd → Prop
 | [] => True
 | x :: r => x.1.size ≤ maxLen ∧ w.cell? ⟨b, off, none⟩ = some (.string x.1) ∧ (∃ c0 c1 c2 c3, w.cell? ⟨b, off + 1, none⟩ = some c0 ∧ w.cell? ⟨b, off + 2, none⟩ = some c1 ∧ w.cell? ⟨b, off + 3, none⟩ = some c2 ∧ w.cell? ⟨b, off + 4, none⟩ = some c3 ∧ IsTm B w c0 c1 c2 c3 x.2) ∧ IsBs B w b (off + 5) r
theorem IsBs.at {B : Nat} {w : World} {g : Nat} : ∀ {b : Bd} {off : Nat}, IsBs B w g off b → ∀ i (h : i < b.length), b[i].1.size ≤ maxLen ∧ w.cell? ⟨g, off + i * 5, none⟩ = some (.string b[i].1) ∧ ∃ c0 c1 c2 c3, w.cell? ⟨g, off + i * 5 + 1, none⟩ = some c0 ∧ w.cell? ⟨g, off + i * 5 + 2, none⟩ = some c1 ∧ w.cell? ⟨g, off + i * 5 + 3, none⟩ = some c2 ∧ w.cell? ⟨g, off + i * 5 + 4, none⟩ = some c3 ∧ IsTm B w c0 c1 c2 c3 b[i].2
 | x :: r, off, h, i, hi => by
   simp only [IsBs] at h
   cases i with
   | zero => exact ⟨h.1, by simpa using h.2.1, by simpa using h.2.2.1⟩
   | succ i =>
     have := IsBs.at h.2.2.2 i (by simpa using hi)
     rw [show off + 5 + i * 5 = off + (i + 1) * 5 by omega] at this
     simpa using this
theorem IsBs.mk {B : Nat} {w : World} {g : Nat} : ∀ {b : Bd} {off : Nat}, (∀ i (h : i < b.length), b[i].1.size ≤ maxLen ∧ w.cell? ⟨g, off + i * 5, none⟩ = some (.string b[i].1) ∧ ∃ c0 c1 c2 c3, w.cell? ⟨g, off + i * 5 + 1, none⟩ = some c0 ∧ w.cell? ⟨g, off + i * 5 + 2, none⟩ = some c1 ∧ w.cell? ⟨g, off + i * 5 + 3, none⟩ = some c2 ∧ w.cell? ⟨g, off + i * 5 + 4, none⟩ = some c3 ∧ IsTm B w c0 c1 c2 c3 b[i].2) → IsBs B w g off b
 | [], _, _ => trivial
 | x :: r, off, h => by
   simp only [IsBs]
   have h0 := h 0 (by simp)
   simp only [Nat.zero_mul, Nat.add_zero, List.getElem_cons_zero] at h0
   refine ⟨h0.1, h0.2.1, h0.2.2, IsBs.mk fun i hi => ?_⟩
   have := h (i + 1) (by simpa using hi)
   rw [show off + (i + 1) * 5 = off + 5 + i * 5 by omega] at this
   simpa using this
theorem IsBs.move {B B' : Nat} {w w' : World} {g : Nat} {b : Bd} {off : Nat} (h : IsBs B w g off b) (hg : w'.heap[g]? = w.heap[g]?) (ht : ∀ c0 c1 c2 c3 t, IsTm B w c0 c1 c2 c3 t → IsTm B' w' c0 c1 c2 c3 t) : IsBs B' w' g off b := by
 have hc : ∀ o, w'.cell? ⟨g, o, none⟩ = w.cell? ⟨g, o, none⟩ := fun o => World.cell?_of_block (a := ⟨g, o, none⟩) hg
 refine IsBs.mk fun i hi => ?_
 obtain ⟨h1, h2, c0, c1, c2, c3, e0, e1, e2, e3, hi⟩ := h.at i hi
 exact ⟨h1, (hc _).trans h2, c0, c1, c2, c3, (hc _).trans e0, (hc _).trans e1, (hc _).trans e2, (hc _).trans e3, ht _ _ _ _ _ hi⟩
def BdV (w : World) (v : Value) (b : Bd) : Prop := ∃ (a : Option Addr) (cap : Nat), v = .slice a b.length cap ∧ b.length ≤ cap ∧ cap ≤ maxLen ∧ (b ≠ [] → ∃ g off, a = some ⟨g, off, none⟩ ∧ g < w.heap.size ∧ IsBs w.heap.size w g off b)
theorem BdV.grow {w w' : World} {v : Value} {b : Bd} (h : BdV w v b) (hb : Below w.heap.size w w') : BdV w' v b := by
 obtain ⟨a, cap, hv, hl, hm, hr⟩ := h
 refine ⟨a, cap, hv, hl, hm, fun hne => ?_⟩
 obtain ⟨g, off, ha, hg, hi⟩ := hr hne
 exact ⟨g, off, ha, Nat.lt_of_lt_of_le hg hb.size, hi.move (hb.block g hg) fun _ _ _ _ _ ht => (ht.below hb).mono hb.size⟩
theorem BdV.nil (w : World) : BdV w (.slice none 0 0) [] := ⟨none, 0, rfl, Nat.le_refl _, Nat.zero_le _, fun h => absurd rfl h⟩
end Go.Proofs.YtlmdhlckgbgfhaaGreatDoor
