/- The statements' helpers: how many subterms a term has, counted up to a bound. -/
import Derived.Test.YtnobmffgchlijaaGreatDoorProg
import Derived.Test.YtnobmffgchlijaaGreatDoorTm
import Derived.WalkKit
import Derived.WalkSpells
import Derived.WalkLawsBesides
import Derived.IntWalk
namespace Go.Proofs.YtnobmffgchlijaaGreatDoor
open Go.RowKit

mutual
/-- What SizeTerm counts up to a bound; and SizeTerms, with n counted before. -/
def sizeT (t : Tm) (m : Int) : Int := match t with
  | .mk _ _ _ args => 1 + sizeL args 0 (m - 1)
def sizeL (ts : List Tm) (n m : Int) : Int := match ts with
  | [] => n
  | t :: ts => if n ≤ m then sizeL ts (n + sizeT t (m - n)) m else n
end
theorem sizeL_stop {ts : List Tm} {n m : Int} (h : m < n) : sizeL ts n m = n := by
  cases ts with
  | nil => simp only [sizeL]
  | cons t ts => simp only [sizeL]; rw [if_neg (by omega)]
mutual
theorem sizeT_bounds : ∀ (t : Tm) (m : Int), 1 ≤ sizeT t m ∧ (sizeT t m ≤ 1 ∨ sizeT t m ≤ m + 1)
  | .mk _ _ _ args, m => by
    simp only [sizeT]
    have := sizeL_bounds args 0 (m - 1)
    omega
theorem sizeL_bounds : ∀ (ts : List Tm) (n m : Int), n ≤ sizeL ts n m ∧ (sizeL ts n m ≤ n ∨ sizeL ts n m ≤ m + 1)
  | [], n, m => by simp only [sizeL]; omega
  | t :: ts, n, m => by
    simp only [sizeL]
    split
    · have h1 := sizeT_bounds t (m - n)
      have h2 := sizeL_bounds ts (n + sizeT t (m - n)) m
      omega
    · omega
end
mutual
/-- A count that keeps the bound is whole. -/
theorem sizeT_whole : ∀ (t : Tm) (m : Int), sizeT t m ≤ m → sizeT t m = t.count
  | .mk _ _ _ args, m => by
    simp only [sizeT, Tm.count]
    intro h
    have := sizeL_whole args 0 (m - 1) (by omega)
    omega
theorem sizeL_whole : ∀ (ts : List Tm) (n m : Int), sizeL ts n m ≤ m → sizeL ts n m = n + Tm.countL ts
  | [], n, m => by simp only [sizeL, Tm.countL]; omega
  | t :: ts, n, m => by
    simp only [sizeL, Tm.countL]
    split
    · intro h
      have h0 := (sizeL_bounds ts (n + sizeT t (m - n)) m).1
      have h1 := sizeT_whole t (m - n) (by omega)
      have h2 := sizeL_whole ts _ m h
      omega
    · intro h; omega
end

/-- SizeTerm at one term. -/
def SzAt (B : Nat) (t : Tm) : Prop := ∀ (c0 c1 c2 c3 : Value) (m : Int) (W : World), IsTm B W c0 c1 c2 c3 t → B ≤ W.heap.size → -1000000000 ≤ m → m ≤ 1000000000 →
  Calls Tryz.prog 13 #[.agg #[c0, c1, c2, c3], .int .i64 m] W fun e W' => e = .returned (.int .i64 (sizeT t m)) ∧ Below W.heap.size W W'

set_option maxRecDepth 100000 in
set_option maxHeartbeats 2000000 in
theorem sizeTerms_at (B : Nat) (us : List Tm) (ih : ∀ t ∈ us, SzAt B t) (a : Option Addr) (cap : Nat) (m : Int) (W : World) (hB : B ≤ W.heap.size) (hl : us.length ≤ maxLen) (hm0 : -1000000001 ≤ m) (hm1 : m ≤ 1000000000)
    (hargs : us ≠ [] → ∃ b off, a = some ⟨b, off, none⟩ ∧ b < B ∧ IsTms B W b off us) :
    Calls Tryz.prog 35 #[.slice a us.length cap, .int .i64 m] W fun e W' => e = .returned (.int .i64 (sizeL us 0 m)) ∧ Below W.heap.size W W' := by
  unfold maxLen at hl
  have HA := Lib.hid hargs; clear hargs
  have IH := Lib.hid ih; clear ih
  have hbd := (sizeL_bounds us 0 m)
  obtain ⟨R, hR⟩ : ∃ R, sizeL us 0 m = R := ⟨_, rfl⟩
  rw [hR] at hbd ⊢
  go_enter Tryz.func35, Tryz.ntmps35
  go_wp2_with fail
  go_loopw [5, 6] (fun n i wr => ∃ (j : Nat) (k : Int), j ≤ us.length ∧ i = .int .i64 j ∧ n = .int .i64 k ∧ 0 ≤ k ∧ sizeL (us.drop j) k m = R ∧ Below W.heap.size W wr) (fun _ i _ => us.length - (intOf i).toNat)
  case atStart => exact ⟨0, 0, by omega, by go_num, by go_num, by omega, by simpa using hR, Below.refl _ _⟩
  case round =>
    obtain ⟨j, k, hj, rfl, rfl, hk0, hk, hBr⟩ := hrel
    have hkR : k ≤ R := by rw [← hk]; exact (sizeL_bounds _ _ _).1
    clear hR
    by_cases hlt : j < us.length
    · rw [List.drop_eq_getElem_cons hlt] at hk
      simp only [sizeL] at hk
      by_cases hkm : k ≤ m
      · rw [if_pos hkm] at hk
        obtain ⟨b, off, rfl, hb, hI⟩ := HA.out (by intro e; rw [e] at hlt; simp at hlt)
        obtain ⟨c0, c1, c2, c3, e0, e1, e2, e3, hc⟩ := hI.at j hlt
        have g0 := (hBr.cell (p := ⟨b, off + j * 4, none⟩) (by show b < _; omega)).trans e0
        have g1 := (hBr.cell (p := ⟨b, off + j * 4 + 1, none⟩) (by show b < _; omega)).trans e1
        have g2 := (hBr.cell (p := ⟨b, off + j * 4 + 2, none⟩) (by show b < _; omega)).trans e2
        have g3 := (hBr.cell (p := ⟨b, off + j * 4 + 3, none⟩) (by show b < _; omega)).trans e3
        have hsz := hBr.size
        have HS := Lib.hid (IH.out us[j] (List.getElem_mem hlt) c0 c1 c2 c3 (m - k) wr (hc.below (hBr.mono hB)) (by omega) (by omega) (by omega))
        have hp := sizeT_bounds us[j] (m - k)
        obtain ⟨s, hs⟩ : ∃ s, sizeT us[j] (m - k) = s := ⟨_, rfl⟩
        rw [hs] at hp hk HS
        have HK := Lib.hid hk
        have HB := Lib.hid hBr
        clear e0 e1 e2 e3 hc hs hk hBr
        have i1 : (0 : Int) ≤ (j : Int) := by omega
        have i2 : (j : Int) < (us.length : Int) := by omega
        go_wp2_with (go_at_call 13; refine HS.out.mono ?_; clear HS; rintro e W2 ⟨rfl, hB2⟩)
        go_roundw
        case rel => exact ⟨j + 1, k + s, by omega, by go_num, by go_num, by omega, HK.out, HB.out.trans (hB2.mono HB.out.size)⟩
        case measure => simp [intOf]; omega
      · rw [if_neg hkm] at hk
        subst hk
        have HB := Lib.hid hBr
        clear hBr
        go_wp2
        go_ret
        exact ⟨rfl, HB.out⟩
    · rw [List.drop_eq_nil_of_le (by omega)] at hk
      simp only [sizeL] at hk
      subst hk
      have HB := Lib.hid hBr
      clear hBr
      go_wp2
      go_ret
      exact ⟨rfl, HB.out⟩

set_option maxRecDepth 100000 in
set_option maxHeartbeats 2000000 in
theorem sizeTerm_at (B : Nat) (t : Tm) : SzAt B t := by
  induction t using Tm.ind with
  | h k n s us ih =>
    intro c0 c1 c2 c3 m W h hB hm0 hm1
    simp only [IsTm] at h
    obtain ⟨rfl, hk, rfl, hn, rfl, hs, a, cap, rfl, hl, hargs⟩ := h
    have hB1 : Below W.heap.size W (W.alloc (.cells #[.int .u8 k, .int .i64 n, .string s, .slice a us.length cap] 32)) := (Below.refl _ W).alloc (Nat.le_refl _) _
    have hS := sizeTerms_at B us ih a cap (m - 1) _ (Nat.le_trans hB hB1.size) hl (by omega) (by omega) (fun hne => by obtain ⟨b, off, h1, h2, h3⟩ := hargs hne; exact ⟨b, off, h1, h2, h3.below (hB1.mono hB) h2⟩)
    have hbd := sizeL_bounds us 0 (m - 1)
    have hT : sizeT (.mk k n s us) m = 1 + sizeL us 0 (m - 1) := by simp only [sizeT]
    rw [hT]
    obtain ⟨R, hR⟩ : ∃ R, sizeL us 0 (m - 1) = R := ⟨_, rfl⟩
    rw [hR] at hS hbd ⊢
    have HS := Lib.hid hS
    have HB := Lib.hid hB1
    clear hS hR hT hB1 hargs ih hl hs hn hk
    go_enter Tryz.func13, Tryz.ntmps13
    go_wp2_with (go_at_call 35; refine HS.out.mono ?_; clear HS; rintro e W2 ⟨rfl, hB2⟩)
    have hBf := HB.out.trans (hB2.mono HB.out.size)
    go_ret
    exact ⟨by go_num, hBf⟩

theorem sizeTerm_any (t : Tm) (c0 c1 c2 c3 : Value) (m : Int) (W : World) (ht : IsTm W.heap.size W c0 c1 c2 c3 t) (hm0 : -1000000000 ≤ m) (hm1 : m ≤ 1000000000) :
    Calls Tryz.prog 13 #[.agg #[c0, c1, c2, c3], .int .i64 m] W fun e W' => e = .returned (.int .i64 (sizeT t m)) ∧ Below W.heap.size W W' :=
  sizeTerm_at W.heap.size t c0 c1 c2 c3 m W ht (Nat.le_refl _) hm0 hm1
theorem sizeTerms_any (us : List Tm) (a : Option Addr) (cap : Nat) (m : Int) (W : World) (hl : us.length ≤ maxLen) (hm0 : -1000000001 ≤ m) (hm1 : m ≤ 1000000000)
    (hargs : us ≠ [] → ∃ b off, a = some ⟨b, off, none⟩ ∧ b < W.heap.size ∧ IsTms W.heap.size W b off us) :
    Calls Tryz.prog 35 #[.slice a us.length cap, .int .i64 m] W fun e W' => e = .returned (.int .i64 (sizeL us 0 m)) ∧ Below W.heap.size W W' :=
  sizeTerms_at W.heap.size us (fun t _ => sizeTerm_at _ t) a cap m W (Nat.le_refl _) hl hm0 hm1 hargs
end Go.Proofs.YtnobmffgchlijaaGreatDoor
