/- The statements' helpers of stage 2: constructors of terms. -/
import Derived.Test.YtnobmffgchlijaaGreatDoorAt
import Derived.Test.YtnobmffgchlijaaGreatDoorCo
import Derived.StillTailTactics
namespace Go.Proofs.YtnobmffgchlijaaGreatDoor
open Go.RowKit

/-- The value is the term, and what it leads to lies in the world. -/
def TmV (w : World) (v : Value) (t : Tm) : Prop := ∃ c0 c1 c2 c3, v = .agg #[c0, c1, c2, c3] ∧ IsTm w.heap.size w c0 c1 c2 c3 t
/-- The value is a slice of the terms. -/
def SlV (w : World) (v : Value) (ts : List Tm) : Prop := ∃ (a : Option Addr) (cap : Nat), v = .slice a ts.length cap ∧ ts.length ≤ maxLen ∧ (ts ≠ [] → ∃ b off, a = some ⟨b, off, none⟩ ∧ b < w.heap.size ∧ IsTms w.heap.size w b off ts)
theorem TmV.grow {w w' : World} {v : Value} {t : Tm} (h : TmV w v t) (hb : Below w.heap.size w w') : TmV w' v t := by
  obtain ⟨c0, c1, c2, c3, hv, ht⟩ := h
  exact ⟨c0, c1, c2, c3, hv, (ht.below hb).mono hb.size⟩
theorem SlV.grow {w w' : World} {v : Value} {ts : List Tm} (h : SlV w v ts) (hb : Below w.heap.size w w') : SlV w' v ts := by
  obtain ⟨a, cap, hv, hl, hr⟩ := h
  refine ⟨a, cap, hv, hl, fun hne => ?_⟩
  obtain ⟨b, off, ha, hbl, hi⟩ := hr hne
  have := hb.size
  exact ⟨b, off, ha, by omega, (hi.below hb hbl).mono hb.size⟩

theorem isTm_mk {B : Nat} {w : World} {k n : Int} {s : ByteArray} {us : List Tm} {a : Option Addr} {cap : Nat} (hk : 0 ≤ k ∧ k ≤ 255) (hn : I64 n) (hs : s.size ≤ maxLen) (hl : us.length ≤ maxLen)
    (hr : us ≠ [] → ∃ b off, a = some ⟨b, off, none⟩ ∧ b < B ∧ IsTms B w b off us) : IsTm B w (.int .u8 k) (.int .i64 n) (.string s) (.slice a us.length cap) (.mk k n s us) := by
  unfold IsTm
  exact ⟨rfl, hk, rfl, hn, rfl, hs, a, cap, rfl, hl, hr⟩

def tNum (n : Int) : Tm := .mk 1 n ⟨#[]⟩ []
def tSym (s : ByteArray) : Tm := .mk 2 0 s []
def tFun (s : ByteArray) (ts : List Tm) : Tm := .mk 4 0 s ts
def tOp (s : ByteArray) (ts : List Tm) : Tm := .mk 5 0 s ts

/-- A call that returns such a term, in a world that has only grown. -/
def Gives (t : Tm) (w : World) (e : Ending) (w' : World) : Prop := ∃ v, e = .returned v ∧ TmV w' v t ∧ Below w.heap.size w w'

theorem i64_mk {n : Int} (h : -9223372036854775808 ≤ n ∧ n ≤ 9223372036854775807) : I64 n := by
  unfold I64 Lit.wf
  simp only [Bool.and_eq_true, decide_eq_true_eq]
  exact h

set_option maxHeartbeats 400000 in
theorem num_any (n : Int) (hn : I64 n) (w : World) : Calls Tryz.prog 22 #[.int .i64 n] w (Gives (tNum n) w) := by
  have HN := Lib.hid hn; clear hn
  go_enter Tryz.func22, Tryz.ntmps22
  go_wp2
  refine bodyPost_ret (v := .agg #[.int .u8 1, .int .i64 n, .string ⟨#[]⟩, .slice none 0 0]) (by simp [results, Tryz.f22, go_sem]) rfl ?_
  refine ⟨_, rfl, ⟨_, _, _, _, rfl, ?_⟩, (Below.refl _ w).alloc (Nat.le_refl _) _⟩
  exact isTm_mk (us := []) (by omega) HN.out (by decide) (by decide) (fun h => absurd rfl h)

set_option maxHeartbeats 400000 in
theorem sym_any (s : ByteArray) (hs : s.size ≤ maxLen) (w : World) : Calls Tryz.prog 27 #[.string s] w (Gives (tSym s) w) := by
  have HS := Lib.hid hs; clear hs
  go_enter Tryz.func27, Tryz.ntmps27
  go_wp2
  refine bodyPost_ret (v := .agg #[.int .u8 2, .int .i64 0, .string s, .slice none 0 0]) (by simp [results, Tryz.f27, go_sem]) rfl ?_
  refine ⟨_, rfl, ⟨_, _, _, _, rfl, ?_⟩, (Below.refl _ w).alloc (Nat.le_refl _) _⟩
  exact isTm_mk (us := []) (by omega) (i64_mk (by omega)) HS.out (by decide) (fun h => absurd rfl h)

set_option maxHeartbeats 400000 in
theorem fun_any (s : ByteArray) (hs : s.size ≤ maxLen) (ts : List Tm) (v : Value) (w : World) (hv : SlV w v ts) : Calls Tryz.prog 24 #[.string s, v] w (Gives (tFun s ts) w) := by
  have HS := Lib.hid hs; clear hs
  obtain ⟨a, cap, rfl, hl, hr⟩ := hv
  have HR := Lib.hid hr; clear hr
  go_enter Tryz.func24, Tryz.ntmps24
  go_wp2
  refine bodyPost_ret (v := .agg #[.int .u8 4, .int .i64 0, .string s, .slice a ts.length cap]) (by simp [results, Tryz.f24, go_sem]) rfl ?_
  have hb : Below w.heap.size w (w.alloc (.cells #[.int .u8 4, .int .i64 0, .string s, .slice a ts.length cap] 32)) := (Below.refl _ w).alloc (Nat.le_refl _) _
  obtain ⟨a', cap', e, hl', hr'⟩ := SlV.grow (v := .slice a ts.length cap) (ts := ts) ⟨a, cap, rfl, hl, HR.out⟩ hb
  refine ⟨_, rfl, ⟨_, _, _, _, rfl, ?_⟩, hb⟩
  injection e with e1 _ e3
  subst e1 e3
  exact isTm_mk (by omega) (i64_mk (by omega)) HS.out hl' hr'

set_option maxHeartbeats 400000 in
theorem op_any (s : ByteArray) (hs : s.size ≤ maxLen) (ts : List Tm) (v : Value) (w : World) (hv : SlV w v ts) : Calls Tryz.prog 26 #[.string s, v] w (Gives (tOp s ts) w) := by
  have HS := Lib.hid hs; clear hs
  obtain ⟨a, cap, rfl, hl, hr⟩ := hv
  have HR := Lib.hid hr; clear hr
  go_enter Tryz.func26, Tryz.ntmps26
  go_wp2
  refine bodyPost_ret (v := .agg #[.int .u8 5, .int .i64 0, .string s, .slice a ts.length cap]) (by simp [results, Tryz.f26, go_sem]) rfl ?_
  have hb : Below w.heap.size w (w.alloc (.cells #[.int .u8 5, .int .i64 0, .string s, .slice a ts.length cap] 32)) := (Below.refl _ w).alloc (Nat.le_refl _) _
  obtain ⟨a', cap', e, hl', hr'⟩ := SlV.grow (v := .slice a ts.length cap) (ts := ts) ⟨a, cap, rfl, hl, HR.out⟩ hb
  refine ⟨_, rfl, ⟨_, _, _, _, rfl, ?_⟩, hb⟩
  injection e with e1 _ e3
  subst e1 e3
  exact isTm_mk (by omega) (i64_mk (by omega)) HS.out hl' hr'

/-- The interval. -/
def tSpan (a b : Tm) : Tm := .mk 6 0 ⟨#[]⟩ [a, b]
theorem TmV.isTm {w : World} {c0 c1 c2 c3 : Value} {t : Tm} (h : TmV w (.agg #[c0, c1, c2, c3]) t) : IsTm w.heap.size w c0 c1 c2 c3 t := by
  obtain ⟨_, _, _, _, e, h⟩ := h
  simp only [Value.agg.injEq, Array.mk.injEq, List.cons.injEq, and_true] at e
  obtain ⟨rfl, rfl, rfl, rfl⟩ := e
  exact h
theorem slV_two {w : World} {a0 a1 a2 a3 b0 b1 b2 b3 : Value} {t u : Tm} (ht : TmV w (.agg #[a0, a1, a2, a3]) t) (hu : TmV w (.agg #[b0, b1, b2, b3]) u) :
    SlV (w.alloc (.cells #[a0, a1, a2, a3, b0, b1, b2, b3] 32)) (.slice (some ⟨w.heap.size, 0, none⟩) 2 2) [t, u] := by
  have h := World.alloc_heap_new w (.cells #[a0, a1, a2, a3, b0, b1, b2, b3] 32)
  have hb : Below w.heap.size w (w.alloc (.cells #[a0, a1, a2, a3, b0, b1, b2, b3] 32)) := (Below.refl _ w).alloc (Nat.le_refl _) _
  refine ⟨_, 2, rfl, by simp [maxLen], fun _ => ⟨w.heap.size, 0, rfl, by simp, ?_⟩⟩
  simp only [IsTms]
  exact ⟨_, _, _, _, cells_at h 0 _ rfl, cells_at h 1 _ rfl, cells_at h 2 _ rfl, cells_at h 3 _ rfl, (ht.isTm.below hb).mono hb.size, _, _, _, _, cells_at h 4 _ rfl, cells_at h 5 _ rfl, cells_at h 6 _ rfl, cells_at h 7 _ rfl, (hu.isTm.below hb).mono hb.size, trivial⟩
theorem lspan_any {a0 a1 a2 a3 b0 b1 b2 b3 : Value} {t u : Tm} (w : World) (ht : TmV w (.agg #[a0, a1, a2, a3]) t) (hu : TmV w (.agg #[b0, b1, b2, b3]) u) :
    Calls Tryz.prog 25 #[.agg #[a0, a1, a2, a3], .agg #[b0, b1, b2, b3]] w (Gives (tSpan t u) w) := by
  obtain ⟨k, n, s, us⟩ := t
  obtain ⟨k', n', s', us'⟩ := u
  obtain ⟨_, _, _, _, e, h1⟩ := ht
  simp only [Value.agg.injEq, Array.mk.injEq, List.cons.injEq, and_true] at e
  obtain ⟨rfl, rfl, rfl, rfl⟩ := e
  obtain ⟨_, _, _, _, e, h2⟩ := hu
  simp only [Value.agg.injEq, Array.mk.injEq, List.cons.injEq, and_true] at e
  obtain ⟨rfl, rfl, rfl, rfl⟩ := e
  have h1' := h1
  have h2' := h2
  simp only [IsTm] at h1 h2
  obtain ⟨rfl, _, rfl, _, rfl, _, a, cap, rfl, _, _⟩ := h1
  obtain ⟨rfl, _, rfl, _, rfl, _, a', cap', rfl, _, _⟩ := h2
  have H1 := Lib.hid h1'
  have H2 := Lib.hid h2'
  clear h1' h2'
  go_enter Tryz.func25, Tryz.ntmps25
  go_wp2
  refine bodyPost_ret (v := .agg #[.int .u8 6, .int .i64 0, .string ⟨#[]⟩, .slice (some ⟨w.heap.size + 1 + 1 + 1, 0, none⟩) 2 2]) (by simp [results, Tryz.f25, go_sem]) rfl ?_
  obtain ⟨W1, hW1⟩ : ∃ W1, ((w.alloc (.cells #[.int .u8 k, .int .i64 n, .string s, .slice a us.length cap] 32)).alloc (.cells #[.int .u8 k', .int .i64 n', .string s', .slice a' us'.length cap'] 32)).alloc (.cells #[.int .u8 6, .int .i64 0, .string ⟨#[]⟩, .slice (some ⟨w.heap.size + 1 + 1 + 1, 0, none⟩) 2 2] 32) = W1 := ⟨_, rfl⟩
  have hb : Below w.heap.size w W1 := by rw [← hW1]; exact (((Below.refl _ w).alloc (Nat.le_refl _) _).alloc (by simp) _).alloc (by simp; omega) _
  have hz : W1.heap.size = w.heap.size + 1 + 1 + 1 := by rw [← hW1]; simp
  have hsl := slV_two (w := W1) ⟨_, _, _, _, rfl, (H1.out.below hb).mono hb.size⟩ ⟨_, _, _, _, rfl, (H2.out.below hb).mono hb.size⟩
  rw [hz] at hsl
  rw [hW1]
  refine ⟨_, rfl, ⟨_, _, _, _, rfl, ?_⟩, hb.alloc hb.size _⟩
  obtain ⟨a2, c2, e, hl', hr'⟩ := hsl
  injection e with e1 e2 e3
  subst e1
  subst e3
  exact isTm_mk (by omega) (i64_mk (by omega)) (by unfold maxLen; decide) hl' hr'
end Go.Proofs.YtnobmffgchlijaaGreatDoor
