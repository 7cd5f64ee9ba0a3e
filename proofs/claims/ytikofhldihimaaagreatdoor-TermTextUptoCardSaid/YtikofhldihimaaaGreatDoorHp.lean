/- The statements' helpers: constructors of terms, rises, SameTexts. -/
import Derived.Test.YtikofhldihimaaaGreatDoorVr
import Derived.Test.YtikofhldihimaaaGreatDoorSt
import Derived.Test.YtikofhldihimaaaGreatDoorCo
import Derived.StillTailTactics
namespace Go.Proofs.YtikofhldihimaaaGreatDoor
open Go.RowKit

/-- The value is the term, and what it leads to lies in the world. -/
def TmV (w : World) (v : Value) (t : Tm) : Prop := ∃ c0 c1 c2 c3, v = .agg #[c0, c1, c2, c3] ∧ IsTm w.heap.size w c0 c1 c2 c3 t
/-- The value is a slice of the terms. -/
def SlV (w : World) (v : Value) (ts : List Tm) : Prop := ∃ (a : Option Addr) (cap : Nat), v = .slice a ts.length cap ∧ ts.length ≤ maxLen ∧ (ts ≠ [] → ∃ b off, a = some ⟨b, off, none⟩ ∧ b < w.heap.size ∧ IsTms w.heap.size w b off ts)
theorem TmV.grow {w w' : World} {v : Value} {t : Tm} (h : TmV w v t) (hb : Below w.heap.size w w') : TmV w' v t := by
  obtain ⟨c0, c1, c2, c3, hv, ht⟩ := h
  exact ⟨c0, c1, c2, c3, hv, (ht.below hb).mono hb.size⟩
theorem SlV.grow {w w' : World} {v : Value} {ts : List Tm} (h : SlV w v ts) (hb : Below w.heap.size w w') : SlV w' v ts := by
  obtain ⟨a, cap, hv, hl, hr⟩ := h
  refine ⟨a, cap, hv, hl, fun hne => ?_⟩
  obtain ⟨b, off, ha, hbl, hi⟩ := hr hne
  have := hb.size
  exact ⟨b, off, ha, by omega, (hi.below hb hbl).mono hb.size⟩

theorem isTm_mk {B : Nat} {w : World} {k n : Int} {s : ByteArray} {us : List Tm} {a : Option Addr} {cap : Nat} (hk : 0 ≤ k ∧ k ≤ 255) (hn : I64 n) (hs : s.size ≤ maxLen) (hl : us.length ≤ maxLen)
    (hr : us ≠ [] → ∃ b off, a = some ⟨b, off, none⟩ ∧ b < B ∧ IsTms B w b off us) : IsTm B w (.int .u8 k) (.int .i64 n) (.string s) (.slice a us.length cap) (.mk k n s us) := by
  unfold IsTm
  exact ⟨rfl, hk, rfl, hn, rfl, hs, a, cap, rfl, hl, hr⟩

def tNum (n : Int) : Tm := .mk 1 n ⟨#[]⟩ []
def tSym (s : ByteArray) : Tm := .mk 2 0 s []
def tFun (s : ByteArray) (ts : List Tm) : Tm := .mk 4 0 s ts
def tOp (s : ByteArray) (ts : List Tm) : Tm := .mk 5 0 s ts

/-- A call that returns such a term, in a world that has only grown. -/
def Gives (t : Tm) (w : World) (e : Ending) (w' : World) : Prop := ∃ v, e = .returned v ∧ TmV w' v t ∧ Below w.heap.size w w'

theorem i64_mk {n : Int} (h : -9223372036854775808 ≤ n ∧ n ≤ 9223372036854775807) : I64 n := by
  unfold I64 Lit.wf
  simp only [Bool.and_eq_true, decide_eq_true_eq]
  exact h

set_option maxHeartbeats 400000 in
theorem num_any (n : Int) (hn : I64 n) (w : World) : Calls Tryz.prog 11 #[.int .i64 n] w (Gives (tNum n) w) := by
  have HN := Lib.hid hn; clear hn
  go_enter Tryz.func11, Tryz.ntmps11
  go_wp2
  refine bodyPost_ret (v := .agg #[.int .u8 1, .int .i64 n, .string ⟨#[]⟩, .slice none 0 0]) (by simp [results, Tryz.f11, go_sem]) rfl ?_
  refine ⟨_, rfl, ⟨_, _, _, _, rfl, ?_⟩, (Below.refl _ w).alloc (Nat.le_refl _) _⟩
  exact isTm_mk (us := []) (by omega) HN.out (by decide) (by decide) (fun h => absurd rfl h)

set_option maxHeartbeats 400000 in
theorem sym_any (s : ByteArray) (hs : s.size ≤ maxLen) (w : World) : Calls Tryz.prog 12 #[.string s] w (Gives (tSym s) w) := by
  have HS := Lib.hid hs; clear hs
  go_enter Tryz.func12, Tryz.ntmps12
  go_wp2
  refine bodyPost_ret (v := .agg #[.int .u8 2, .int .i64 0, .string s, .slice none 0 0]) (by simp [results, Tryz.f12, go_sem]) rfl ?_
  refine ⟨_, rfl, ⟨_, _, _, _, rfl, ?_⟩, (Below.refl _ w).alloc (Nat.le_refl _) _⟩
  exact isTm_mk (us := []) (by omega) (i64_mk (by omega)) HS.out (by decide) (fun h => absurd rfl h)

set_option maxHeartbeats 400000 in
theorem fun_any (s : ByteArray) (hs : s.size ≤ maxLen) (ts : List Tm) (v : Value) (w : World) (hv : SlV w v ts) : Calls Tryz.prog 9 #[.string s, v] w (Gives (tFun s ts) w) := by
  have HS := Lib.hid hs; clear hs
  obtain ⟨a, cap, rfl, hl, hr⟩ := hv
  have HR := Lib.hid hr; clear hr
  go_enter Tryz.func9, Tryz.ntmps9
  go_wp2
  refine bodyPost_ret (v := .agg #[.int .u8 4, .int .i64 0, .string s, .slice a ts.length cap]) (by simp [results, Tryz.f9, go_sem]) rfl ?_
  have hb : Below w.heap.size w (w.alloc (.cells #[.int .u8 4, .int .i64 0, .string s, .slice a ts.length cap] 24)) := (Below.refl _ w).alloc (Nat.le_refl _) _
  obtain ⟨a', cap', e, hl', hr'⟩ := SlV.grow (v := .slice a ts.length cap) (ts := ts) ⟨a, cap, rfl, hl, HR.out⟩ hb
  refine ⟨_, rfl, ⟨_, _, _, _, rfl, ?_⟩, hb⟩
  injection e with e1 _ e3
  subst e1 e3
  exact isTm_mk (by omega) (i64_mk (by omega)) HS.out hl' hr'

set_option maxHeartbeats 400000 in
theorem op_any (s : ByteArray) (hs : s.size ≤ maxLen) (ts : List Tm) (v : Value) (w : World) (hv : SlV w v ts) : Calls Tryz.prog 10 #[.string s, v] w (Gives (tOp s ts) w) := by
  have HS := Lib.hid hs; clear hs
  obtain ⟨a, cap, rfl, hl, hr⟩ := hv
  have HR := Lib.hid hr; clear hr
  go_enter Tryz.func10, Tryz.ntmps10
  go_wp2
  refine bodyPost_ret (v := .agg #[.int .u8 5, .int .i64 0, .string s, .slice a ts.length cap]) (by simp [results, Tryz.f10, go_sem]) rfl ?_
  have hb : Below w.heap.size w (w.alloc (.cells #[.int .u8 5, .int .i64 0, .string s, .slice a ts.length cap] 24)) := (Below.refl _ w).alloc (Nat.le_refl _) _
  obtain ⟨a', cap', e, hl', hr'⟩ := SlV.grow (v := .slice a ts.length cap) (ts := ts) ⟨a, cap, rfl, hl, HR.out⟩ hb
  refine ⟨_, rfl, ⟨_, _, _, _, rfl, ?_⟩, hb⟩
  injection e with e1 _ e3
  subst e1 e3
  exact isTm_mk (by omega) (i64_mk (by omega)) HS.out hl' hr'

/-- Strictly increasing by Compare. -/
def risesB : List Tm → Bool
  | a :: b :: r => (Tm.cmp a b == -1) && risesB (b :: r)
  | _ => true
end Go.Proofs.YtikofhldihimaaaGreatDoor
