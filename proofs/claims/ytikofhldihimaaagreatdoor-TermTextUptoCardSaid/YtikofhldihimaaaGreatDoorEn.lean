/- Package term, texts: strength and enclosed. -/
import Derived.Test.YtikofhldihimaaaGreatDoorBu
import Derived.Deep.RegionWith
import Derived.RegionTactic
import Derived.BigRegion
import Derived.BigQuiet
import Derived.Deep.RegionHeld3
import Derived.Deep.DeepCutAuto
namespace Go.Proofs.YtikofhldihimaaaGreatDoor
open Go.RowKit

def strengthI (k : Int) (s : ByteArray) (m : Nat) : Int := if k = 6 then 0 else if m = 1 then 3 else if s.toList == [43] || s.toList == [45] then 1 else 2
def Tm.strength (t : Tm) : Int := strengthI t.kind t.name t.args.length

set_option maxHeartbeats 1000000 in
theorem strength_any (k n : Int) (s : ByteArray) (a : Option Addr) (m cap : Nat) (w : World) :
    Calls Tryz.prog 65 #[.agg #[.int .u8 k, .int .i64 n, .string s, .slice a m cap]] w fun e w' => e = .returned (.int .i64 (strengthI k s m)) ∧ w' = w.alloc (.cells #[.int .u8 k, .int .i64 n, .string s, .slice a m cap] 24) := by
  have hr : strengthI k s m = if k = 6 then 0 else if m = 1 then 3 else if s.toList == [43] || s.toList == [45] then 1 else 2 := rfl
  have HR := Lib.hid hr; clear hr
  by_cases h1 : k = 6 <;> by_cases h2 : m = 1 <;> cases h3 : s.toList == [43] <;> cases h4 : s.toList == [45]
  all_goals
    have H1 := Lib.hid h1
    have H2 := Lib.hid h2
    have H3 := Lib.hid h3
    have H4 := Lib.hid h4
    first | subst h1 | (have h5 : (k == 6) = false := by simpa using h1)
    first | subst h2 | (have h6 : ((m : Int) == 1) = false := by rw [beq_eq_false_iff_ne]; omega)
    go_enter Tryz.func65, Tryz.ntmps65
    go_wp2
    go_ret
    exact ⟨by rw [HR.out]; simp [H1.out, H2.out, H3.out, H4.out], rfl⟩

def enclosedB (outer : Int) (i : Nat) (a : Tm) : Bool :=
  if a.kind = 6 then true else if a.kind = 1 then outer == 3
  else if a.kind = 5 then a.strength != 3 && (decide (a.strength < outer) || (a.strength == outer && decide (i = 1)))
  else false

theorem encl6 (o n : Int) (i : Nat) (s : ByteArray) (us : List Tm) : enclosedB o i (.mk 6 n s us) = true := rfl
theorem encl1 (o n : Int) (i : Nat) (s : ByteArray) (us : List Tm) : enclosedB o i (.mk 1 n s us) = (o == 3) := rfl
theorem encl5 (o n : Int) (i : Nat) (s : ByteArray) (us : List Tm) : enclosedB o i (.mk 5 n s us) = (strengthI 5 s us.length != 3 && (decide (strengthI 5 s us.length < o) || (strengthI 5 s us.length == o && decide (i = 1)))) := rfl
theorem encl0 (o k n : Int) (i : Nat) (s : ByteArray) (us : List Tm) (h6 : k ≠ 6) (h1 : k ≠ 1) (h5 : k ≠ 5) : enclosedB o i (.mk k n s us) = false := by
  show (if k = 6 then true else if k = 1 then o == 3 else if k = 5 then _ else false) = false
  rw [if_neg h6, if_neg h1, if_neg h5]

set_option maxRecDepth 100000 in
set_option maxHeartbeats 2000000 in
theorem enclosed_any (B : Nat) (k n : Int) (s : ByteArray) (us : List Tm) (i : Nat) (hi : i < us.length) (c0 c1 c2 c3 : Value) (w : World) (ht : IsTm B w c0 c1 c2 c3 (.mk k n s us)) (hB : B ≤ w.heap.size) :
    Calls Tryz.prog 53 #[.agg #[c0, c1, c2, c3], .int .i64 i] w fun e w' => e = .returned (.bool (enclosedB (strengthI k s us.length) i us[i])) ∧ Below w.heap.size w w' := by
  simp only [IsTm] at ht
  obtain ⟨rfl, hk, rfl, hnn, rfl, hs, a, cap, rfl, hl, hargs⟩ := ht
  unfold maxLen at hl
  obtain ⟨b, off, rfl, hb, hI⟩ := hargs (by intro e; rw [e] at hi; simp at hi)
  obtain ⟨d0, d1, d2, d3, e0, e1, e2, e3, hc4⟩ := hI.at i hi
  obtain ⟨k', n', s', us', hq⟩ : ∃ k' n' s' us', us[i] = .mk k' n' s' us' := by cases us[i]; exact ⟨_, _, _, _, rfl⟩
  rw [hq] at hc4 ⊢
  simp only [IsTm] at hc4
  obtain ⟨rfl, _, rfl, _, rfl, _, a', cap', rfl, _, _⟩ := hc4
  have hlt : b < w.heap.size := by omega
  have hlt2 : b < w.heap.size + 1 := by omega
  have hlt3 : b < w.heap.size + 1 + 1 := by omega
  have hlt4 : b < w.heap.size + 1 + 1 + 1 := by omega
  have hii : (0 : Int) ≤ (i : Int) := by omega
  have hil : (i : Int) < (us.length : Int) := by omega
  clear hq hI hargs
  have hx := World.alloc_heap_new w (.cells #[.int .u8 k, .int .i64 n, .string s, .slice (some ⟨b, off, none⟩) us.length cap] 24)
  have f0 := (Below.cell ((Below.refl _ w).alloc (Nat.le_refl _) (.cells #[.int .u8 k, .int .i64 n, .string s, .slice (some ⟨b, off, none⟩) us.length cap] 24)) (p := ⟨b, off + i * 4, none⟩) hlt).trans e0
  have f1 := (Below.cell ((Below.refl _ w).alloc (Nat.le_refl _) (.cells #[.int .u8 k, .int .i64 n, .string s, .slice (some ⟨b, off, none⟩) us.length cap] 24)) (p := ⟨b, off + i * 4 + 1, none⟩) hlt).trans e1
  have f2 := (Below.cell ((Below.refl _ w).alloc (Nat.le_refl _) (.cells #[.int .u8 k, .int .i64 n, .string s, .slice (some ⟨b, off, none⟩) us.length cap] 24)) (p := ⟨b, off + i * 4 + 2, none⟩) hlt).trans e2
  have f3 := (Below.cell ((Below.refl _ w).alloc (Nat.le_refl _) (.cells #[.int .u8 k, .int .i64 n, .string s, .slice (some ⟨b, off, none⟩) us.length cap] 24)) (p := ⟨b, off + i * 4 + 3, none⟩) hlt).trans e3
  have hBe : Below w.heap.size w (w.alloc (.cells #[.int .u8 k, .int .i64 n, .string s, .slice (some ⟨b, off, none⟩) us.length cap] 24)) := (Below.refl _ w).alloc (Nat.le_refl _) _
  have hz : (w.alloc (.cells #[.int .u8 k, .int .i64 n, .string s, .slice (some ⟨b, off, none⟩) us.length cap] 24)).heap.size = w.heap.size + 1 := by simp
  go_enter Tryz.func53, Tryz.ntmps53
  go_wp2_with fail
  revert hx f0 f1 f2 f3 hBe hz
  generalize w.alloc (.cells #[.int .u8 k, .int .i64 n, .string s, .slice (some ⟨b, off, none⟩) us.length cap] 24) = W1
  intro hx f0 f1 f2 f3 hBe hz
  have x0 := cells_at hx 0 _ rfl
  have x1 := cells_at hx 1 _ rfl
  have x2 := cells_at hx 2 _ rfl
  have x3 := cells_at hx 3 _ rfl
  have HZ := Lib.hid hz
  have HBe := Lib.hid hBe
  clear hx hz hBe e0 e1 e2 e3 hlt2 hlt3 hlt4
  go_cut [5, 6] (fun s5 s6 wx => ∃ g : Nat, s5 = .pointer (some ⟨g, 0, none⟩) ∧ s6 = .int .i64 (strengthI k s us.length) ∧ wx.heap[g]? = some (.cells #[.int .u8 k', .int .i64 n', .string s', .slice a' us'.length cap'] 24 (0, 0)) ∧ Below w.heap.size w wx)
  case first =>
    go_region_held3 (fun w' => w'.cell? ⟨w.heap.size, 0, none⟩ = some (.int .u8 k) ∧ w'.cell? ⟨w.heap.size, 1, none⟩ = some (.int .i64 n) ∧ w'.cell? ⟨w.heap.size, 2, none⟩ = some (.string s) ∧ w'.cell? ⟨w.heap.size, 3, none⟩ = some (.slice (some ⟨b, off, none⟩) us.length cap) ∧
      w'.cell? ⟨b, off + i * 4, none⟩ = some (.int .u8 k') ∧ w'.cell? ⟨b, off + i * 4 + 1, none⟩ = some (.int .i64 n') ∧ w'.cell? ⟨b, off + i * 4 + 2, none⟩ = some (.string s') ∧ w'.cell? ⟨b, off + i * 4 + 3, none⟩ = some (.slice a' us'.length cap')) (go_keep)
      (first | (go_at_call 65; refine (strength_any _ _ _ _ _ _ _).mono ?_; rintro e w' ⟨rfl, rfl⟩))
    all_goals
      go_wp2_with fail
      go_meet
      first
        | (refine ⟨W1.heap.size + 1, rfl, rfl, ?_, ?_⟩
           · have := World.alloc_heap_new (W1.alloc (.cells #[.int .u8 k, .int .i64 n, .string s, .slice (some ⟨b, off, none⟩) us.length cap] 24)) (.cells #[.int .u8 k', .int .i64 n', .string s', .slice a' us'.length cap'] 24)
             rw [World.size_alloc] at this; exact this
           · exact (((HBe.out.alloc (by rw [HZ.out]; omega) _).alloc (by rw [World.size_alloc, HZ.out]; omega) _).drew))
        | (refine ⟨W1.heap.size, rfl, rfl, ?_, ?_⟩
           · exact (Below.heap_alloc (W1.alloc (.cells #[.int .u8 k', .int .i64 n', .string s', .slice a' us'.length cap'] 24)) _ _ (by simp)).trans (World.alloc_heap_new W1 (.cells #[.int .u8 k', .int .i64 n', .string s', .slice a' us'.length cap'] 24))
           · exact (((HBe.out.alloc (by rw [HZ.out]; omega) _).alloc (by rw [World.size_alloc, HZ.out]; omega) _).drew))
  case rest =>
    obtain ⟨g, rfl, rfl, hg, hBw⟩ := hcut
    have y0 := cells_at hg 0 _ rfl
    have y1 := cells_at hg 1 _ rfl
    have y2 := cells_at hg 2 _ rfl
    have y3 := cells_at hg 3 _ rfl
    have hglt : g < wc.heap.size := (Array.getElem?_eq_some_iff.1 hg).1
    clear hg x0 x1 x2 x3 f0 f1 f2 f3
    have hcs : k' = 6 ∨ k' = 1 ∨ k' = 5 ∨ (k' ≠ 6 ∧ k' ≠ 1 ∧ k' ≠ 5) := by omega
    rcases hcs with rfl | rfl | rfl | ⟨e6, e1, e5⟩
    · go_wp2
      go_ret
      exact ⟨by rw [encl6]; rfl, hBw⟩
    · go_wp2
      go_ret
      exact ⟨by rw [encl1]; rfl, hBw⟩
    · have hST := strength_any 5 n' s' a' us'.length cap' wc
      have HST := Lib.hid hST; clear hST
      have HBw := Lib.hid (hBw.alloc (by have := hBw.size; omega) (.cells #[.int .u8 5, .int .i64 n', .string s', .slice a' us'.length cap'] 24))
      cases h1 : (strengthI 5 s' us'.length != 3)
      · have H1 := Lib.hid h1
        go_wp2_with (go_at_call 65; refine HST.out.mono ?_; rintro e w' ⟨rfl, rfl⟩)
        go_ret
        exact ⟨by rw [encl5, H1.out]; rfl, HBw.out⟩
      · have H1 := Lib.hid h1
        by_cases h2 : strengthI 5 s' us'.length < strengthI k s us.length
        · have H2 := Lib.hid (decide_eq_true h2)
          go_wp2_with (go_at_call 65; refine HST.out.mono ?_; rintro e w' ⟨rfl, rfl⟩)
          go_ret
          exact ⟨by rw [encl5, H1.out, H2.out]; rfl, HBw.out⟩
        · have H2 := Lib.hid (decide_eq_false h2)
          cases h3 : (strengthI 5 s' us'.length == strengthI k s us.length)
          · have H3 := Lib.hid h3
            go_wp2_with (go_at_call 65; refine HST.out.mono ?_; rintro e w' ⟨rfl, rfl⟩)
            go_ret
            exact ⟨by rw [encl5, H1.out, H2.out, H3.out]; rfl, HBw.out⟩
          · have H3 := Lib.hid h3
            by_cases h4 : i = 1
            · subst h4
              go_wp2_with (go_at_call 65; refine HST.out.mono ?_; rintro e w' ⟨rfl, rfl⟩)
              go_ret
              exact ⟨by rw [encl5, H1.out, H2.out, H3.out]; rfl, HBw.out⟩
            · have H4 := Lib.hid (decide_eq_false h4)
              have h5 : ((i : Int) == 1) = false := by rw [beq_eq_false_iff_ne]; omega
              go_wp2_with (go_at_call 65; refine HST.out.mono ?_; rintro e w' ⟨rfl, rfl⟩)
              go_ret
              exact ⟨by rw [encl5, H1.out, H2.out, H3.out, H4.out]; rfl, HBw.out⟩
    · have H6 := Lib.hid e6
      have H1 := Lib.hid e1
      have H5 := Lib.hid e5
      have g6 : (k' == 6) = false := by simpa using e6
      have g1 : (k' == 1) = false := by simpa using e1
      have g5 : (k' == 5) = false := by simpa using e5
      clear e6 e1 e5
      go_wp2
      go_ret
      exact ⟨by rw [encl0 _ _ _ _ _ _ H6.out H1.out H5.out]; rfl, hBw⟩
end Go.Proofs.YtikofhldihimaaaGreatDoor
