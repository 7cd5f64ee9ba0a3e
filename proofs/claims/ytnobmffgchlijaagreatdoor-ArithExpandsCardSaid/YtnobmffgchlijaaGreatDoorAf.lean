/- Package arith: Calc. -/
import Derived.Test.YtnobmffgchlijaaGreatDoorAe
namespace Go.Proofs.YtnobmffgchlijaaGreatDoor
open Go.RowKit Go.Maps

theorem toList_mk (l : List UInt8) : (ByteArray.mk l.toArray).toList = l := by rw [ByteArray.toList_eq]
theorem mk_toList (s : ByteArray) : s = ⟨s.toList.toArray⟩ := by
  rw [ByteArray.toList_eq]
theorem arOf_some {s : ByteArray} {n : Nat} {o : Ar} (h : arOf s.toList n = some o) : ∃ k ∈ opKeys, k.2.2.2 = o ∧ s = ⟨k.2.1.toArray⟩ ∧ n = k.2.2.1 := by
  unfold arOf at h
  by_cases g0 : s.toList = [45] ∧ n = 1
  · rw [if_pos g0] at h; cases h
    exact ⟨(2, [45], 1, .neg), by simp [opKeys], rfl, (mk_toList s).trans (by rw [g0.1]), g0.2⟩
  rw [if_neg g0] at h
  by_cases g1 : s.toList = [43] ∧ n = 2
  · rw [if_pos g1] at h; cases h
    exact ⟨(4, [43], 2, .add), by simp [opKeys], rfl, (mk_toList s).trans (by rw [g1.1]), g1.2⟩
  rw [if_neg g1] at h
  by_cases g2 : s.toList = [45] ∧ n = 2
  · rw [if_pos g2] at h; cases h
    exact ⟨(6, [45], 2, .sub), by simp [opKeys], rfl, (mk_toList s).trans (by rw [g2.1]), g2.2⟩
  rw [if_neg g2] at h
  by_cases g3 : s.toList = [42] ∧ n = 2
  · rw [if_pos g3] at h; cases h
    exact ⟨(8, [42], 2, .mul), by simp [opKeys], rfl, (mk_toList s).trans (by rw [g3.1]), g3.2⟩
  rw [if_neg g3] at h
  by_cases g4 : s.toList = [47] ∧ n = 2
  · rw [if_pos g4] at h; cases h
    exact ⟨(10, [47], 2, .quo), by simp [opKeys], rfl, (mk_toList s).trans (by rw [g4.1]), g4.2⟩
  rw [if_neg g4] at h
  by_cases g5 : s.toList = [92] ∧ n = 2
  · rw [if_pos g5] at h; cases h
    exact ⟨(12, [92], 2, .rem), by simp [opKeys], rfl, (mk_toList s).trans (by rw [g5.1]), g5.2⟩
  rw [if_neg g5] at h
  cases h
theorem arOf_none {s : ByteArray} {n : Nat} (h : arOf s.toList n = none) : ∀ k ∈ opKeys, ¬ (s = ⟨k.2.1.toArray⟩ ∧ n = k.2.2.1) := by
  rintro k hk ⟨rfl, rfl⟩
  rw [toList_mk] at h
  simp only [opKeys, List.mem_cons, List.not_mem_nil, or_false] at hk
  rcases hk with rfl | rfl | rfl | rfl | rfl | rfl <;> cases h
theorem OpsMap.some {D : DataW Unit} (hh : ∀ kl, Maps.has D kl = true ↔ ∃ k ∈ opKeys, kl = kL k) (ha : ∀ k ∈ opKeys, ∀ z, D.atKey (kL k) z = .lit (.int .i64 (fnAr k.2.2.2 : Int))) {s : ByteArray} {n : Nat} {o : Ar} (h : arOf s.toList n = some o) :
    Maps.has D (keyS s n) = true ∧ ∀ z, D.atKey (keyS s n) z = .lit (.int .i64 (fnAr o : Int)) := by
  obtain ⟨k, hk, rfl, rfl, rfl⟩ := arOf_some h
  exact ⟨(hh _).2 ⟨k, hk, rfl⟩, ha k hk⟩
theorem OpsMap.none {D : DataW Unit} (hh : ∀ kl, Maps.has D kl = true ↔ ∃ k ∈ opKeys, kl = kL k) {s : ByteArray} (hs : s.size ≤ maxLen) {n : Nat} (hn : n ≤ maxLen) (h : arOf s.toList n = none) :
    Maps.has D (keyS s n) = false := by
  cases hb : Maps.has D (keyS s n) with
  | false => rfl
  | true =>
    obtain ⟨k, hk, e⟩ := (hh _).1 hb
    have hI : I64 (n : Int) := by
      have h' : -9223372036854775808 ≤ (n : Int) ∧ (n : Int) ≤ 9223372036854775807 := by unfold maxLen at hn; omega
      unfold I64 Lit.wf
      simp only [Bool.and_eq_true, decide_eq_true_eq]
      exact h'
    have h1 := sign_keyed.inj (keyS_of s n hs hI) (e ▸ kL_of hk)
    simp at h1
    exact absurd ⟨h1.1, by omega⟩ (arOf_none h k hk)
theorem i64_len {n : Nat} (hn : n ≤ maxLen) : I64 (n : Int) := by
  have h' : -9223372036854775808 ≤ (n : Int) ∧ (n : Int) ≤ 9223372036854775807 := by unfold maxLen at hn; omega
  unfold I64 Lit.wf
  simp only [Bool.and_eq_true, decide_eq_true_eq]
  exact h'

set_option maxRecDepth 100000 in
set_option maxHeartbeats 2000000 in
theorem calc_any (s : ByteArray) (hs : s.size ≤ maxLen) (l : List Int) (v : Value) (w : World) (hv : IntV w v l) :
    Calls Tryz.prog 10 #[.string s, v] w fun e w' => e = .returned (optPair (calcI s.toList l)) ∧ Below w.heap.size w w' := by
  have hv0 := hv
  obtain ⟨a, cap, rfl, hl, _⟩ := hv
  have HV := Lib.hid hv0
  have HS := Lib.hid hs
  have HK := Lib.hid (keyS_of s l.length hs (i64_len hl))
  have HL := Lib.hid hl
  have HO := Lib.hid (operations_any w)
  have HZ := Lib.hid (fun w => (by kernel_rfl : (zeroValue 54).run Tryz.prog w = .ok .nilFunc w))
  clear hv0 hs hl
  cases har : arOf s.toList l.length with
  | none =>
    have HR := Lib.hid (show calcI s.toList l = none by unfold calcI; rw [har])
    have HA := Lib.hid har
    clear har
    go_enter Tryz.func10, Tryz.ntmps10
    go_wp2_with (go_at_call 32; refine HO.out.mono ?_)
    clear HO
    rintro e w1 ⟨rfl, hmap, hb⟩
    obtain ⟨D, hown, _, hh, _⟩ := hmap
    have HN := Lib.hid (OpsMap.none hh HS.out HL.out HA.out)
    have HB := Lib.hid hb
    clear hh hb
    go_wp2_with (at_lookup; refine wpList_lookup_own_ok _ rfl _ _ 56 rfl 59 54 sign_keyed Tryz.underlying56 fnElem (HZ.out _) .nil [] rfl _ _ _ rfl hown (.agg #[.string s, .int .i64 l.length]) (keyS s l.length) rfl HK.out ?_; intro v ps _; rw [HN.out])
    go_ret2
    exact ⟨by rw [HR.out]; rfl, HB.out⟩
  | some o =>
    have HR := Lib.hid (show calcI s.toList l = applyI o l by unfold calcI; rw [har])
    have HA := Lib.hid har
    have HLE := Lib.hid (arOf_arity har)
    clear har
    go_enter Tryz.func10, Tryz.ntmps10
    go_wp2_with (go_at_call 32; refine HO.out.mono ?_)
    clear HO
    rintro e w1 ⟨rfl, hmap, hb⟩
    obtain ⟨D, hown, _, hh, ha⟩ := hmap
    have HN := Lib.hid (OpsMap.some hh ha HA.out)
    have HB := Lib.hid hb
    have hp := apply_any o l HLE.out _ w1 (HV.out.grow hb)
    unfold AppPost at hp
    clear hh hb ha
    cases hr : applyI o l
    all_goals
      rw [hr] at hp HR
      have HP := Lib.hid hp
      clear hp hr
      go_wp2_with (first | (at_lookup; refine wpList_lookup_own_ok _ rfl _ _ 56 rfl 59 54 sign_keyed Tryz.underlying56 fnElem (HZ.out _) .nil [] rfl _ _ _ rfl hown (.agg #[.string s, .int .i64 l.length]) (keyS s l.length) rfl HK.out ?_; intro v ps hv; rw [HN.out.2] at hv; obtain rfl := fnElem_inv hv; clear hv; rw [HN.out.1]) | (go_at_call 33; refine HP.out.mono ?_; rintro e w2 ⟨rfl, n, rfl⟩; simp only [optPair]))
      have HBn : Below w.heap.size w (w1.drewN n) := ⟨HB.out.os, HB.out.tape, HB.out.output, HB.out.size, HB.out.block⟩
      go_ret2
      exact ⟨by rw [HR.out]; rfl, HBn⟩
end Go.Proofs.YtnobmffgchlijaaGreatDoor
