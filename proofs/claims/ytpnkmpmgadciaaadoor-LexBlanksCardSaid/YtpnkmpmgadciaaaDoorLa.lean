/- The laws of lex: alike. -/
import Derived.Test.YtpnkmpmgadciaaaDoorLy
namespace Go.Proofs.YtpnkmpmgadciaaaDoor
open Go.RowKit

def Alike (la lb : List Tk) : Prop := la.map (fun x => (x.k, x.t)) = lb.map (fun x => (x.k, x.t))
theorem Alike.len {la lb : List Tk} (h : Alike la lb) : la.length = lb.length := by
  have := congrArg List.length h; simpa using this
theorem Alike.at {la lb : List Tk} (h : Alike la lb) {i : Nat} {x y : Tk} (hx : la[i]? = some x) (hy : lb[i]? = some y) : x.k = y.k ∧ x.t = y.t := by
  have h1 : (la.map (fun x => (x.k, x.t)))[i]? = some (x.k, x.t) := by rw [List.getElem?_map, hx]; rfl
  have h2 : (lb.map (fun x => (x.k, x.t)))[i]? = some (y.k, y.t) := by rw [List.getElem?_map, hy]; rfl
  rw [show la.map (fun x => (x.k, x.t)) = lb.map (fun x => (x.k, x.t)) from h, h2] at h1
  simp at h1
  exact ⟨h1.1.symm, h1.2.symm⟩

set_option maxRecDepth 100000 in
set_option maxHeartbeats 4000000 in
theorem alike_any (la lb : List Tk) (va vb : Value) (w : World) (hA : IsToks w.heap.size w va la) (hB : IsToks w.heap.size w vb lb) (hl : la.length ≤ 4294967296) (h : Alike la lb) :
    Calls Tryd.prog 12 #[va, vb] w fun e w' => e = .returned (.bool true) ∧ Below w.heap.size w w' := by
  obtain ⟨p, cap, rfl, hA⟩ := hA
  obtain ⟨q, cap', rfl, hB⟩ := hB
  have HA := Lib.hid hA
  have HB := Lib.hid hB
  have HL := Lib.hid h
  rw [← h.len]
  clear hA hB h
  go_enter Tryd.func12, Tryd.ntmps12
  go_wp2_with fail
  go_loopw [5] (fun i wr => ∃ k : Nat, k ≤ la.length ∧ i = .int .i64 k ∧ Below w.heap.size w wr) (fun i _ => la.length - (intOf i).toNat)
  case atStart => exact ⟨0, Nat.zero_le _, rfl, Below.refl _ _⟩
  case round =>
    obtain ⟨k, hk, rfl, hb⟩ := hrel
    by_cases hlt : k < la.length
    · obtain ⟨x, hx⟩ : ∃ x, la[k]? = some x := ⟨la[k], List.getElem?_eq_getElem hlt⟩
      obtain ⟨y, hy⟩ : ∃ y, lb[k]? = some y := ⟨lb[k]'(by rw [← HL.out.len]; exact hlt), List.getElem?_eq_getElem _⟩
      obtain ⟨b, off, rfl, hbn, hc⟩ := HA.out (by intro e; rw [e] at hlt; simp at hlt)
      obtain ⟨b', off', rfl, hbn', hc'⟩ := HB.out (by intro e; rw [e] at hy; simp at hy)
      obtain ⟨e1, e2⟩ := HL.out.at hx hy
      obtain ⟨k0, k1, _⟩ := hc k x hx
      obtain ⟨j0, j1, _⟩ := hc' k y hy
      rw [← e1] at j0
      rw [← e2] at j1
      have g0 := (hb.cell (p := ⟨b, off + k * 3, none⟩) hbn).trans k0
      have g1 := (hb.cell (p := ⟨b, off + k * 3 + 1, none⟩) hbn).trans k1
      have q0 := (hb.cell (p := ⟨b', off' + k * 3, none⟩) hbn').trans j0
      have q1 := (hb.cell (p := ⟨b', off' + k * 3 + 1, none⟩) hbn').trans j1
      obtain ⟨xk, hxk⟩ : ∃ xk, x.k = xk := ⟨_, rfl⟩
      obtain ⟨xt, hxt⟩ : ∃ xt, x.t = xt := ⟨_, rfl⟩
      rw [hxk] at g0 q0
      rw [hxt] at g1 q1
      have i1 : (0 : Int) ≤ (k : Int) := by omega
      have i2 : (k : Int) < (la.length : Int) := by omega
      have n1 : ((xk : Int) != (xk : Int)) = false := by simp
      have n2 : (xt.toList == xt.toList) = true := by simp
      have n3 : (xt.toList != xt.toList) = false := by simp
      have HBB := Lib.hid hb
      clear hb hc hc' k0 k1 j0 j1 e1 e2 hxk hxt hx hy
      go_wp2_with fail
      go_quiet (fail)
      go_wp2_with fail
      go_roundw
      case rel =>
        have h := HBB.out
        exact ⟨k + 1, by omega, by go_num, ⟨h.os, h.tape, h.output, h.size, h.block⟩⟩
      case measure => simp [intOf]; omega
    · have HBB := Lib.hid hb
      clear hb
      go_wp2
      go_ret
      exact ⟨rfl, HBB.out⟩

/-- The first part of a slice, and the rest. -/
theorem IsToks.fst {B : Nat} {w : World} {b off cap : Nat} {l : List Tk} (h : IsToks B w (.slice (some ⟨b, off, none⟩) l.length cap) l) (r s : List Tk) (hl : l = r ++ s) (c : Nat) : IsToks B w (.slice (some ⟨b, off, none⟩) r.length c) r := by
  obtain ⟨p, cap', hv, hr⟩ := h
  refine ⟨_, c, rfl, fun hne => ?_⟩
  obtain ⟨b', off', hp, hbB, hc⟩ := hr (by rw [hl]; intro e; simp at e; exact hne e.1)
  cases hv; cases hp
  refine ⟨b, off, rfl, hbB, fun i x hx => hc i x ?_⟩
  rw [hl, List.getElem?_append_left (List.getElem?_eq_some_iff.1 hx).1]; exact hx
theorem IsToks.snd {B : Nat} {w : World} {b off cap : Nat} {l : List Tk} (h : IsToks B w (.slice (some ⟨b, off, none⟩) l.length cap) l) (r s : List Tk) (hl : l = r ++ s) (o c : Nat) (ho : s ≠ [] → o = off + r.length * 3) : IsToks B w (.slice (some ⟨b, o, none⟩) s.length c) s := by
  obtain ⟨p, cap', hv, hr⟩ := h
  refine ⟨_, c, rfl, fun hne => ?_⟩
  obtain ⟨b', off', hp, hbB, hc⟩ := hr (by rw [hl]; intro e; simp at e; exact hne e.2)
  cases hv; cases hp
  refine ⟨b, o, rfl, hbB, fun i x hx => ?_⟩
  rw [ho hne]
  have := hc (r.length + i) x (by rw [hl, List.getElem?_append_right (by omega), Nat.add_sub_cancel_left]; exact hx)
  rw [show off + (r.length + i) * 3 = off + r.length * 3 + i * 3 from by omega] at this
  exact this
end Go.Proofs.YtpnkmpmgadciaaaDoor
