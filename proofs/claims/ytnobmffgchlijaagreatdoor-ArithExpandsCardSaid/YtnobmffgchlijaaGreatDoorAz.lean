/- Package arith: the law's integers. -/
import Derived.Test.YtnobmffgchlijaaGreatDoorAu
import Derived.Maps.AppendAt
namespace Go.Proofs.YtnobmffgchlijaaGreatDoor
open Go.RowKit Go.Shelf
attribute [local go_sem] Oper.semAt_some

set_option maxHeartbeats 400000 in
theorem num_x (n : Int) (w : World) : Calls Tryz.prog 22 #[.int .i64 n] w fun e w' => e = .returned (.agg #[.int .u8 1, .int .i64 n, .string ⟨#[]⟩, .slice none 0 0]) ∧ Below w.heap.size w w' := by
  go_enter Tryz.func22, Tryz.ntmps22
  go_wp2
  refine bodyPost_ret (v := .agg #[.int .u8 1, .int .i64 n, .string ⟨#[]⟩, .slice none 0 0]) (by simp [results, Tryz.f22, go_sem]) rfl ?_
  exact ⟨rfl, (Below.refl _ w).alloc (Nat.le_refl _) _⟩
set_option maxHeartbeats 400000 in
theorem fun_x (s : ByteArray) (a : Option Addr) (n c : Nat) (w : World) : Calls Tryz.prog 24 #[.string s, .slice a n c] w fun e w' => e = .returned (.agg #[.int .u8 4, .int .i64 0, .string s, .slice a n c]) ∧ Below w.heap.size w w' := by
  go_enter Tryz.func24, Tryz.ntmps24
  go_wp2
  refine bodyPost_ret (v := .agg #[.int .u8 4, .int .i64 0, .string s, .slice a n c]) (by simp [results, Tryz.f24, go_sem]) rfl ?_
  exact ⟨rfl, (Below.refl _ w).alloc (Nat.le_refl _) _⟩
set_option maxRecDepth 100000 in
set_option maxHeartbeats 40000000 in
theorem lints_any (x y : Int) (rx : -2147483647 ≤ x ∧ x ≤ 2147483647) (ry : -2147483647 ≤ y ∧ y ≤ 2147483647) (hfar : ¬ 1000 < y - x + 1) (w : World) :
    Calls Tryz.prog 30 #[.int .i64 x, .int .i64 y] w fun e w' => ∃ v, e = .returned v ∧ Vals none w.heap.size w' v ((spanL x y).map numT) ∧ Below w.heap.size w w' := by
  have hsp : (spanL x y).length = (y - x + 1).toNat := spanL_length x y
  have hsg : ∀ j (h : j < (spanL x y).length), (spanL x y)[j] = x + (j : Int) := fun j h => by simp [spanL]
  obtain ⟨L, hLd⟩ : ∃ L, spanL x y = L := ⟨_, rfl⟩
  rw [hLd] at hsp
  have HSG := Lib.hid (show ∀ j (h : j < L.length), L[j] = x + (j : Int) by subst hLd; exact hsg)
  rw [hLd]
  have HSP := Lib.hid hsp
  clear hsg hLd hsp
  go_enter Tryz.func30, Tryz.ntmps30
  go_wp2_with fail
  go_loopw [5, 6] (fun v7 i wl => ∃ j : Nat, j ≤ L.length ∧ i = .int .i64 (x + (j : Int)) ∧ Vals none w.heap.size wl v7 ((L.take j).map numT) ∧ Below w.heap.size w wl) (fun _ i _ => (y + 1 - intOf i).toNat)
  case atStart => exact ⟨0, Nat.zero_le _, by simp, Vals.nil _ _ _, Below.refl _ _⟩
  case round =>
    obtain ⟨j, hj, rfl, hV, hBl⟩ := hrel
    have HBL := Lib.hid hBl
    have hjy : (j : Int) ≤ y - x + 1 ∨ j = 0 := by have := HSP.out; omega
    by_cases hlt : j < L.length
    · have hxj : x + (j : Int) ≤ y := by have := HSP.out; omega
      have hxI : I64 (x + (j : Int)) := by
        unfold I64 Lit.wf
        simp only [Bool.and_eq_true, decide_eq_true_eq]
        exact ⟨by show -9223372036854775808 ≤ x + (j : Int); omega, by show x + (j : Int) ≤ 9223372036854775807; omega⟩
      obtain ⟨xs, hO, hH, _⟩ := hV
      have HO := Lib.hid hO
      have HH := Lib.hid hH
      have HT := Lib.hid (show (L.take (j + 1)).map numT = (L.take j).map numT ++ [numT (x + (j : Int))] by rw [List.take_succ_eq_append_getElem hlt, List.map_append, HSG.out j hlt]; rfl)
      have htl : ((L.take j).map numT).length = j := by simp; omega
      obtain ⟨TS, hTS⟩ : ∃ TS, (L.take j).map numT = TS := ⟨_, rfl⟩
      rw [hTS] at htl HT HO HH
      clear hTS
      have hL7 : L.length ≤ 1000 := by have := HSP.out; omega
      obtain ⟨z, hz⟩ : ∃ z, x + (j : Int) = z := ⟨_, rfl⟩
      rw [hz] at hxj hxI HT
      obtain ⟨i0, hi, hz0, hz1, hz2⟩ := info_parts info_term
      rw [hz]
      clear hO hH hBl
      have hzr : -2147483647 ≤ z ∧ z ≤ 2147483647 := by omega
      go_wp2_with (first | (go_at_call 22; refine (num_x z _).mono ?_; rintro e W3 ⟨rfl, hb3⟩) | (at_builtin; refine wpList_append_own_at _ rfl _ _ 30 rfl w.heap.size 32 i0 _ 4 56 Tryz.underlying30 hi hz0 hz1 hz2 rfl (by decide) u5 TS.length xs rfl ?c0 _ 1 1 [.int .u8 1, .int .i64 z, .string ⟨#[]⟩, .slice none 0 0] rfl rfl ?c1 ?c2 ?c3 ?c4 ?c5 ?_))
      case c2 => simp [Value.oneCell']
      case c3 => unfold maxLen; omega
      case c4 => omega
      case c5 => have := HBL.out.size; have := hb3.size; simp; omega
      case c1 =>
        intro jj u' hu'
        have hn := World.alloc_heap_new W3 (.cells #[.int .u8 1, .int .i64 z, .string ⟨#[]⟩, .slice none 0 0] 32)
        rcases jj with _ | _ | _ | _ | jj
        · cases hu'; exact cells_at hn 0 _ rfl
        · cases hu'; exact cells_at hn 1 _ rfl
        · cases hu'; exact cells_at hn 2 _ rfl
        · cases hu'; exact cells_at hn 3 _ rfl
        · simp at hu'
      case c0 => exact own_grown HO.out (hb3.alloc hb3.size _)
      intro v' w' hown' hgrow _ hat
      have hBA := hb3.alloc hb3.size (.cells #[.int .u8 1, .int .i64 z, .string ⟨#[]⟩, .slice none 0 0] 32)
      have zA := hBA.size
      have zL := HBL.out.size
      have hV' : Vals none w.heap.size w' v' (TS ++ [numT z]) := Vals.app (ts := TS) (us := [numT z]) (HH.out.keep fun b hf => ⟨⟨hf.1, Nat.lt_of_lt_of_le hf.2.1 zA, hf.2.2⟩, hBA.block b hf.2.1⟩) (fun g e => by cases e)
        (HoldL.one (by
          unfold numT
          simp only [IsTmIn]
          exact ⟨rfl, by omega, rfl, hxI, rfl, by show 0 ≤ maxLen; exact Nat.zero_le _, none, 0, rfl, by simp, fun h => absurd rfl h⟩)) (by rw [htl]; exact hown') hgrow (by rw [World.size_alloc]; exact hat)
      have hBw : Below w.heap.size w w' := (HBL.out.trans (hBA.mono zL)).grown hgrow (by omega) (fun k e => (HO.out.lt k e).1)
      have HF := Lib.hid (show ∃ j' : Nat, j' ≤ L.length ∧ (Value.int .i64 (z + 1)) = .int .i64 (x + (j' : Int)) ∧ Vals none w.heap.size w' v' ((L.take j').map numT) ∧ Below w.heap.size w w' from ⟨j + 1, by omega, by rw [← hz]; congr 1; omega, by rw [HT.out]; exact hV', hBw⟩)
      clear hown' hgrow hat hBA hV' hBw HH HO HT
      go_wp2
      go_roundw
      case rel => exact HF.out
      case measure => simp [intOf]; omega
    · have hje : j = L.length := by omega
      have hxj : y < x + (j : Int) := by have := HSP.out; omega
      rw [hje, List.take_of_length_le (Nat.le_refl _)] at hV
      have HV := Lib.hid hV
      clear hV hBl
      obtain ⟨z, hz⟩ : ∃ z, x + (j : Int) = z := ⟨_, rfl⟩
      rw [hz] at hxj
      rw [hz]
      go_wp2
      go_ret
      exact ⟨_, rfl, HV.out, HBL.out⟩
end Go.Proofs.YtnobmffgchlijaaGreatDoor
