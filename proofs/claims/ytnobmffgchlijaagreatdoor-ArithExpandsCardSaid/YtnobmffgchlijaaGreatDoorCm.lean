/- Package term: Compare and Equal. -/
import Derived.Test.YtnobmffgchlijaaGreatDoorCp
import Derived.Deep.QuietTactic
import Derived.BigQuiet
namespace Go.Proofs.YtnobmffgchlijaaGreatDoor
open Go.RowKit

mutual
def Tm.cmp : Tm → Tm → Int
  | .mk k n s us, .mk k' n' s' as' =>
    if Lib.compareInt (rankI k) (rankI k') ≠ 0 then Lib.compareInt (rankI k) (rankI k')
    else if k = 1 ∧ n ≠ n' then Lib.compareInt n n'
    else if orI (Lib.compareInt us.length as'.length) (strCmp s s') ≠ 0 then orI (Lib.compareInt us.length as'.length) (strCmp s s')
    else if Tm.cmpL us as' ≠ 0 then Tm.cmpL us as'
    else Lib.compareInt n n'
def Tm.cmpL : List Tm → List Tm → Int
  | [], [] => 0
  | [], _ :: _ => -1
  | _ :: _, [] => 1
  | a :: us, b :: bs => if Tm.cmp a b ≠ 0 then Tm.cmp a b else Tm.cmpL us bs
end

def CmpAt (B : Nat) (t : Tm) : Prop := ∀ (t' : Tm) (c0 c1 c2 c3 d0 d1 d2 d3 : Value) (W : World), IsTm B W c0 c1 c2 c3 t → IsTm B W d0 d1 d2 d3 t' → B ≤ W.heap.size →
  Calls Tryz.prog 19 #[.agg #[c0, c1, c2, c3], .agg #[d0, d1, d2, d3]] W fun e w' => e = .returned (.int .i64 (Tm.cmp t t')) ∧ Below W.heap.size W w'

set_option maxRecDepth 100000 in
set_option maxHeartbeats 2000000 in
theorem compareFunc_any (B : Nat) (us bs : List Tm) (ih : ∀ t ∈ us, CmpAt B t) (a b : Option Addr) (capa capb : Nat) (w : World) (hw : B ≤ w.heap.size) (hla : us.length ≤ maxLen) (_hlb : bs.length ≤ maxLen)
    (ha : us ≠ [] → ∃ b off, a = some ⟨b, off, none⟩ ∧ b < B ∧ IsTms B w b off us) (hb : bs ≠ [] → ∃ b' off, b = some ⟨b', off, none⟩ ∧ b' < B ∧ IsTms B w b' off bs) :
    Calls Tryz.prog 45 #[.slice a us.length capa, .slice b bs.length capb, .func (.func 19) #[] #[]] w
      fun e w' => e = .returned (.int .i64 (Tm.cmpL us bs)) ∧ Below w.heap.size w w' := by
  unfold maxLen at hla
  have HA := Lib.hid ha; clear ha
  have HB := Lib.hid hb; clear hb
  have IH := Lib.hid ih; clear ih
  go_enter Tryz.func45, Tryz.ntmps45
  go_wp2
  go_loopw [13] (fun i wr => ∃ j : Nat, j ≤ us.length ∧ j ≤ bs.length ∧ i = .int .i64 j ∧ Below w.heap.size w wr ∧ Hid (Tm.cmpL us bs = Tm.cmpL (us.drop j) (bs.drop j))) (fun i _ => us.length - (intOf i).toNat)
  case atStart => exact ⟨0, Nat.zero_le _, Nat.zero_le _, rfl, Below.refl _ _, rfl⟩
  case round =>
    obtain ⟨j, hja, hjb, rfl, hB, HC⟩ := hrel
    by_cases hlt : j < us.length
    · obtain ⟨b1, off, rfl, hb1, hI1⟩ := HA.out (by intro e; rw [e] at hlt; simp at hlt)
      obtain ⟨c0, c1, c2, c3, e0, e1, e2, e3, hc4⟩ := hI1.at j hlt
      have hBB := hB.mono hw
      have g0 := (hBB.cell (p := ⟨b1, off + j * 4, none⟩) hb1).trans e0
      have g1 := (hBB.cell (p := ⟨b1, off + j * 4 + 1, none⟩) hb1).trans e1
      have g2 := (hBB.cell (p := ⟨b1, off + j * 4 + 2, none⟩) hb1).trans e2
      have g3 := (hBB.cell (p := ⟨b1, off + j * 4 + 3, none⟩) hb1).trans e3
      have hd1 := hc4.below hBB
      obtain ⟨k', n', s', as', hq⟩ : ∃ k' n' s' as', us[j] = .mk k' n' s' as' := by cases us[j]; exact ⟨_, _, _, _, rfl⟩
      have HQ := Lib.hid hq
      rw [hq] at hc4
      simp only [IsTm] at hc4
      obtain ⟨rfl, _, rfl, _, rfl, _, a', cap', rfl, _, _⟩ := hc4
      have hda : us.drop j = us[j] :: us.drop (j + 1) := List.drop_eq_getElem_cons hlt
      have HDA := Lib.hid hda; clear hda
      have HD1 := Lib.hid hd1
      clear e0 e1 e2 e3 hq hd1
      by_cases hltb : j < bs.length
      · obtain ⟨b2, off2, rfl, hb2, hI2⟩ := HB.out (by intro e; rw [e] at hltb; simp at hltb)
        obtain ⟨d0, d1, d2, d3, e0, e1, e2, e3, hc4⟩ := hI2.at j hltb
        have k0 := (hBB.cell (p := ⟨b2, off2 + j * 4, none⟩) hb2).trans e0
        have k1 := (hBB.cell (p := ⟨b2, off2 + j * 4 + 1, none⟩) hb2).trans e1
        have k2 := (hBB.cell (p := ⟨b2, off2 + j * 4 + 2, none⟩) hb2).trans e2
        have k3 := (hBB.cell (p := ⟨b2, off2 + j * 4 + 3, none⟩) hb2).trans e3
        have hd2 := hc4.below hBB
        obtain ⟨k'', n'', s'', as'', hq2⟩ : ∃ k' n' s' as', bs[j] = .mk k' n' s' as' := by cases bs[j]; exact ⟨_, _, _, _, rfl⟩
        have HQ2 := Lib.hid hq2
        rw [hq2] at hc4
        simp only [IsTm] at hc4
        obtain ⟨rfl, _, rfl, _, rfl, _, a'', cap'', rfl, _, _⟩ := hc4
        have hdb : bs.drop j = bs[j] :: bs.drop (j + 1) := List.drop_eq_getElem_cons hltb
        have HDB := Lib.hid hdb; clear hdb
        have HD2 := Lib.hid hd2
        clear e0 e1 e2 e3 hq2 hd2
        have hlt1 : b1 < wr.heap.size := by have := hB.size; omega
        have hlt2 : b2 < wr.heap.size := by have := hB.size; omega
        have hBa : Below wr.heap.size wr ((wr.alloc (.cells #[.int .u8 k', .int .i64 n', .string s', .slice a' as'.length cap'] 32)).alloc (.cells #[.int .u8 k'', .int .i64 n'', .string s'', .slice a'' as''.length cap''] 32)) := ((Below.refl _ wr).alloc (Nat.le_refl _) _).alloc (by simp) _
        have hBn : B ≤ wr.heap.size := by have := hB.size; omega
        have hcall := IH.out _ (List.getElem_mem hlt) _ _ _ _ _ _ _ _ _ _ (HD1.out.below (hBa.mono hBn)) (HD2.out.below (hBa.mono hBn)) (by simp; omega)
        have HCALL := Lib.hid hcall
        clear hcall
        have HBA := Lib.hid hBa
        clear hBa
        by_cases hz : Tm.cmp us[j] bs[j] = 0
        · have HZ := Lib.hid hz
          have hz' : (Tm.cmp us[j] bs[j] != 0) = false := by simpa using hz
          clear hz
          go_wp2_with (go_at_call 19; refine HCALL.out.mono ?_; rintro e W3 ⟨rfl, hB3⟩)
          go_roundw
          case rel =>
            refine ⟨j + 1, by omega, by omega, by go_num, hB.trans ((HBA.out.trans (hB3.mono (by simp; omega))).mono hB.size), ?_⟩
            show _ = _
            rw [HC.out, HDA.out, HDB.out]
            simp only [Tm.cmpL]
            rw [if_neg (by simpa using HZ.out)]
          case measure => simp [intOf]; omega
        · have HZ := Lib.hid hz
          have hz' : (Tm.cmp us[j] bs[j] != 0) = true := by simpa using hz
          clear hz
          go_wp2_with (go_at_call 19; refine HCALL.out.mono ?_; rintro e W3 ⟨rfl, hB3⟩)
          go_ret
          refine ⟨?_, hB.trans ((HBA.out.trans (hB3.mono (by simp; omega))).mono hB.size)⟩
          rw [HC.out, HDA.out, HDB.out]
          simp only [Tm.cmpL]
          rw [if_pos HZ.out]; rfl
      · have hdb : bs.drop j = [] := List.drop_eq_nil_of_le (by omega)
        have HDB := Lib.hid hdb; clear hdb
        go_wp2
        go_ret
        refine ⟨?_, hB.alloc (by have := hB.size; omega) _⟩
        rw [HC.out, HDA.out, HDB.out]
        simp only [Tm.cmpL]; rfl
    · have hda : us.drop j = [] := List.drop_eq_nil_of_le (by omega)
      have HDA := Lib.hid hda; clear hda
      by_cases hltb : us.length < bs.length
      · have hdb : bs.drop j = bs[j]'(by omega) :: bs.drop (j + 1) := List.drop_eq_getElem_cons (by omega)
        have HDB := Lib.hid hdb; clear hdb
        go_wp2
        go_ret
        refine ⟨?_, hB⟩
        rw [HC.out, HDA.out, HDB.out]
        simp only [Tm.cmpL]; rfl
      · have hdb : bs.drop j = [] := List.drop_eq_nil_of_le (by omega)
        have HDB := Lib.hid hdb; clear hdb
        go_wp2
        go_ret
        refine ⟨?_, hB⟩
        rw [HC.out, HDA.out, HDB.out]
        simp only [Tm.cmpL]; rfl
end Go.Proofs.YtnobmffgchlijaaGreatDoor
