/- Package lex: blanks and comments. -/
import Derived.Test.YtgepfenjbjlgpaaGreatDoorLr
import Derived.Deep.RegionWith
import Derived.RangeFuncBox
namespace Go.Proofs.YtgepfenjbjlgpaaGreatDoor
open Go.RowKit

/-- What is left behind blanks and comments (true: within a comment). -/
def sk : Bool → List UInt8 → List UInt8
  | _, [] => []
  | false, c :: r => if inB 1 c.toNat then sk false r else if inB 16 c.toNat then sk true r else c :: r
  | true, c :: r => if nlB c.toNat then sk true r else sk false r
theorem sk_suffix : ∀ (l : List UInt8) (b : Bool), sk b l <:+ l
  | [], b => by cases b <;> exact List.suffix_refl _
  | c :: r, false => by
    unfold sk; split
    · exact (sk_suffix r false).trans (List.suffix_cons _ _)
    · split
      · exact (sk_suffix r true).trans (List.suffix_cons _ _)
      · exact List.suffix_refl _
  | c :: r, true => by
    unfold sk; split
    · exact (sk_suffix r true).trans (List.suffix_cons _ _)
    · exact (sk_suffix r false).trans (List.suffix_cons _ _)
theorem sk_blanks : ∀ l : List UInt8, sk false (l.dropWhile fun c => inB 1 c.toNat) = sk false l
  | [] => rfl
  | c :: r => by
    rw [List.dropWhile_cons]
    by_cases h : inB 1 c.toNat = true
    · rw [if_pos h, sk_blanks r]; conv => rhs; unfold sk
      rw [if_pos h]
    · rw [if_neg h]
theorem in_nl {c : UInt8} (h : nlB c.toNat = false) : inB 1 c.toNat = true := by
  unfold nlB at h
  have : c.toNat = 10 := by have : (c.toNat : Int) = 10 := by simpa using h
                            omega
  rw [this]; rfl
theorem sk_line : ∀ l : List UInt8, sk false (l.dropWhile fun c => nlB c.toNat) = sk true l
  | [] => rfl
  | c :: r => by
    rw [List.dropWhile_cons]
    cases h : nlB c.toNat
    · rw [if_neg (by simp)]
      have h1 := in_nl h
      conv => lhs; unfold sk
      conv => rhs; unfold sk
      rw [if_pos h1, if_neg (by simp [h])]
    · rw [if_pos rfl, sk_line r]
      conv => rhs; unfold sk
      rw [if_pos h]

theorem Scn.allocD {S : Nat} {s : ByteArray} {a : Nat} {W : World} (h : Scn S s a W) {o : Obj} : Scn S s a (W.alloc o).drew := h.below (W' := W.alloc o) ((Below.refl _ _).alloc (Nat.le_refl _) _)
theorem grown_allocD {A W : World} {r : Option Nat} (h : A.grownBy W r) (o : Obj) : A.grownBy (W.alloc o).drew r := grown_drew (grown_trans h (grown_below ((Below.refl _ _).alloc (Nat.le_refl _) _))) 1
/-- The offset behind blanks and comments. -/
def skN (s : ByteArray) (a : Nat) : Nat := s.size - (sk false (s.data.toList.drop a)).length
theorem begB_drop {p : Int → Bool} {s : ByteArray} {a : Nat} : begB p s a = match s.data.toList.drop a with | [] => false | c :: _ => p c.toNat := by
  unfold begB
  split
  · rename_i h
    rw [List.drop_eq_getElem_cons (by simpa using h : a < s.data.toList.length)]; rfl
  · rename_i h
    rw [List.drop_eq_nil_of_le (by simpa using h)]
theorem drop_run {p : Int → Bool} {s : ByteArray} {a : Nat} : s.data.toList.drop (runN p s a) = (s.data.toList.drop a).dropWhile fun c => p c.toNat := by
  unfold runN
  rw [← List.drop_drop]
  generalize s.data.toList.drop a = l
  induction l with
  | nil => rfl
  | cons c r ih =>
    rw [List.takeWhile_cons, List.dropWhile_cons]
    split
    · simpa using ih
    · rfl
theorem skN_blanks {s : ByteArray} {a : Nat} : skN s (runN (inB 1) s a) = skN s a := by
  unfold skN; rw [drop_run, sk_blanks]
theorem sk_pct {l : List UInt8} (h : (match l with | [] => false | c :: _ => inB 16 c.toNat) = true) : sk false (l.dropWhile fun c => nlB c.toNat) = sk false l := by
  cases l with
  | nil => cases h
  | cons c r =>
    have hc : (c.toNat : Int) = 37 := by
      revert h
      show inB 16 c.toNat = true → _
      unfold inB clsI
      intro h
      split at h
      · cases h
      · split at h
        · cases h
        · split at h
          · cases h
          · split at h
            · cases h
            · split at h
              · assumption
              · split at h <;> cases h
    rw [sk_line]
    conv => rhs; unfold sk
    conv => lhs; unfold sk
    rw [hc]; rfl
theorem skN_line {s : ByteArray} {a : Nat} (h : begB (inB 16) s a = true) : skN s (runN nlB s a) = skN s a := by
  rw [begB_drop] at h
  unfold skN; rw [drop_run, sk_pct h]
theorem sk_id {l : List UInt8} (h : (match l with | [] => false | c :: _ => inB 17 c.toNat) = false) : sk false l = l := by
  cases l with
  | nil => rfl
  | cons c r =>
    replace h : inB 17 c.toNat = false := h
    have h1 : inB 1 c.toNat = false := by
      unfold inB at h ⊢
      rcases cls_lit c.toNat with e | e | e | e | e | e | e <;> rw [e] at h ⊢ <;> first | rfl | cases h
    have h2 : inB 16 c.toNat = false := by
      unfold inB at h ⊢
      rcases cls_lit c.toNat with e | e | e | e | e | e | e <;> rw [e] at h ⊢ <;> first | rfl | cases h
    unfold sk
    rw [if_neg (by simp [h1]), if_neg (by simp [h2])]
theorem skN_stop {s : ByteArray} {a : Nat} (ha : a ≤ s.size) (h : begB (inB 17) s a = false) : skN s a = a := by
  rw [begB_drop] at h
  unfold skN; rw [sk_id h]
  have : s.data.toList.length = s.size := rfl
  simp; omega
theorem skN_ge {s : ByteArray} {a : Nat} (ha : a ≤ s.size) : a ≤ skN s a ∧ skN s a ≤ s.size := by
  unfold skN
  have := (sk_suffix (s.data.toList.drop a) false).length_le
  have e : s.data.toList.length = s.size := rfl
  rw [List.length_drop, e] at this
  omega
theorem skN_drop {s : ByteArray} {a : Nat} : s.data.toList.drop (skN s a) = sk false (s.data.toList.drop a) := by
  have hs := (sk_suffix (s.data.toList.drop a) false).trans (List.drop_suffix a s.data.toList)
  unfold skN
  exact (List.suffix_iff_eq_drop.1 hs).symm

theorem cls_in {k c : Int} (h : inB k c = true) (hk : k = 17) : (inB 1 c = true ∧ inB 16 c = false) ∨ (inB 1 c = false ∧ inB 16 c = true) := by
  subst hk
  unfold inB at h ⊢
  rcases cls_lit c with e | e | e | e | e | e | e <;> rw [e] at h ⊢ <;> first | (left; exact ⟨rfl, rfl⟩) | (right; exact ⟨rfl, rfl⟩) | cases h

theorem runN_gt {p : Int → Bool} {s : ByteArray} {a : Nat} (h : begB p s a = true) : a < runN p s a := by
  have hlt := begB_lt h
  rw [← runN_step h]
  have := (runN_le (p := p) (s := s) (a := a + 1) (by omega)).1
  omega
theorem beg17 {s : ByteArray} {a : Nat} (h : begB (inB 17) s a = true) : begB (inB 1) s a = true ∨ (begB (inB 1) s a = false ∧ begB (inB 16) s a = true) := by
  unfold begB at h ⊢
  split at h
  · rename_i hl
    rw [dif_pos hl, dif_pos hl]
    rcases cls_in h rfl with ⟨h1, _⟩ | ⟨h1, h2⟩
    · exact .inl h1
    · exact .inr ⟨h1, h2⟩
  · cases h
theorem in16_nl {c : Int} (h : inB 16 c = true) : nlB c = true := by
  by_cases e : c = 10
  · subst e; cases h
  · unfold nlB; simpa using e
theorem beg16 {s : ByteArray} {a : Nat} (h : begB (inB 16) s a = true) : begB nlB s a = true := by
  unfold begB at h ⊢
  split at h
  · rename_i hl
    rw [dif_pos hl]; exact in16_nl h
  · cases h
/-- A round of 'skip' reads on. -/
theorem skip_grows {s : ByteArray} {a : Nat} (h : begB (inB 17) s a = true) (h2 : begB (inB 16) s (runN (inB 1) s a) = false) : a < runN (inB 1) s a := by
  rcases beg17 h with h1 | ⟨h1, h3⟩
  · exact runN_gt h1
  · rw [runN_stop h1, h3] at h2; cases h2

/-- 'in(k)', then 'begins': the arms of a region that draws. -/
theorem begins_at (k : Int) (s : ByteArray) (a S b : Nat) (w : World) (hs : s.size ≤ maxLen) (hS : Scn S s a w) (hb : w.heap[b]? = some (.cells #[.int .u8 k] 97 (0, 0))) :
    Calls Tryz.prog 62 #[.pointer (some ⟨S, 0, none⟩), .func (.func 86) #[] #[.pointer (some ⟨b, 0, none⟩)]] w fun e w' => e = .returned (.bool (begB (inB k) s a)) ∧ Scn S s a w' ∧ w.grownBy w' (some S) :=
  (begins_in k s a S b w hs hS.c0 hS.c1 (boxK hb)).mono fun _ _ ⟨h, n, h'⟩ => ⟨h, by rw [h']; exact hS.drew n, by rw [h']; exact grown_drew (grown_below (Below.refl _ _)) n⟩

set_option maxRecDepth 100000 in
set_option maxHeartbeats 4000000 in
theorem skip_any (s : ByteArray) (a S : Nat) (w : World) (hs : s.size ≤ maxLen) (ha : a ≤ s.size) (hS : Scn S s a w) :
    Calls Tryz.prog 37 #[.pointer (some ⟨S, 0, none⟩)] w fun e w' =>
      e = .returned (.tuple #[]) ∧ Scn S s (skN s a) w' ∧ w.grownBy w' (some S) := by
  have HM := Lib.hid hs
  unfold maxLen at hs
  have HSC := Lib.hid hS
  clear hS
  go_enter Tryz.func37, Tryz.ntmps37
  go_wp2
  go_loopw [6] (fun _ wr => ∃ j, a ≤ j ∧ j ≤ s.size ∧ Scn S s j wr ∧ w.grownBy wr (some S) ∧ skN s j = skN s a) (fun _ wr => s.size - atW S wr)
  case atStart => exact ⟨a, Nat.le_refl _, ha, HSC.out, grown_below (Below.refl _ _), rfl⟩
  case round =>
    obtain ⟨j, haj, hj, hSj, hg, hr⟩ := hrel
    have HSJ := Lib.hid hSj
    have HG := Lib.hid hg
    have HR := Lib.hid hr
    have HM0 := Lib.hid hSj.at
    clear hSj hg hr
    cases hbg : begB (inB 17) s j
    · have HE := Lib.hid (skN_stop hj hbg)
      have HBG := Lib.hid hbg
      clear hbg
      go_wp2
      go_region_with (first
        | (go_at_call 63; refine (in_any _ _).mono ?_; rintro e w' ⟨rfl, rfl⟩)
        | (go_at_call 62; refine (begins_at 17 s j S wr.heap.size (wr.alloc (.cells #[.int .u8 17] 97)).drew HM.out HSJ.out.allocD (World.alloc_heap_new wr _)).mono ?_; rw [HBG.out]; rintro e W1 ⟨rfl, hs1, hg1⟩; have HS1 := Lib.hid hs1; have HG1 := Lib.hid hg1; clear hs1 hg1))
      go_wp2
      go_end0
      have hR := HR.out
      rw [HE.out] at hR
      rw [← hR]
      exact ⟨rfl, HS1.out, grown_trans (grown_allocD HG.out _) HG1.out⟩
    · have hlt := begB_lt hbg
      have HLT := Lib.hid hbg
      have HBG := Lib.hid hbg
      clear hbg
      go_wp2
      go_region_with (first
        | (go_at_call 63; refine (in_any _ _).mono ?_; rintro e w' ⟨rfl, rfl⟩)
        | (go_at_call 62; refine (begins_at 17 s j S wr.heap.size (wr.alloc (.cells #[.int .u8 17] 97)).drew HM.out HSJ.out.allocD (World.alloc_heap_new wr _)).mono ?_; rw [HBG.out]; rintro e W1 ⟨rfl, hs1, hg1⟩; have hl1 := hs1.lt; have HS1 := Lib.hid hs1; have HG1 := Lib.hid (grown_trans (grown_allocD HG.out _) hg1); clear hs1 hg1))
      clear HSJ HG
      go_wp2
      go_region_with (first
        | (go_at_call 63; refine (in_any _ _).mono ?_; rintro e w' ⟨rfl, rfl⟩)
        | (go_at_call 64; refine (runs_in 1 s j S W1.heap.size (W1.alloc (.cells #[.int .u8 1] 97)).drew HM.out hj HS1.out.allocD (World.alloc_heap_new W1 _) (by omega)).mono ?_; rintro e W2 ⟨rfl, hs2, hg2⟩; have hl2 := hs2.lt; have HS2 := Lib.hid hs2; have HG2 := Lib.hid (grown_trans (grown_allocD HG1.out _) hg2); clear hs2 hg2))
      clear HS1 HG1
      have hb2 := runN_le (p := inB 1) (s := s) (a := j) hj
      have HSB := Lib.hid (skN_blanks (s := s) (a := j))
      obtain ⟨b, hbb⟩ : ∃ b, runN (inB 1) s j = b := ⟨_, rfl⟩
      rw [hbb] at HS2 HSB hb2 ⊢
      have HBB := Lib.hid hbb; clear hbb
      cases hbg : begB (inB 16) s b
      · have HGR := Lib.hid (skip_grows HBG.out (by rw [HBB.out]; exact hbg))
        have HBH := Lib.hid hbg
        clear hbg
        go_wp2
        go_region_with (first
          | (go_at_call 63; refine (in_any _ _).mono ?_; rintro e w' ⟨rfl, rfl⟩)
          | (go_at_call 62; refine (begins_at 16 s b S W2.heap.size (W2.alloc (.cells #[.int .u8 16] 97)).drew HM.out HS2.out.allocD (World.alloc_heap_new W2 _)).mono ?_; rw [HBH.out]; rintro e W3 ⟨rfl, hs3, hg3⟩; have HS3 := Lib.hid hs3; have HG3 := Lib.hid (grown_trans (grown_allocD HG2.out _) hg3); clear hs3 hg3))
        go_wp2
        go_roundw
        case rel => exact ⟨b, by omega, by omega, HS3.out, HG3.out, by rw [HSB.out, HR.out]⟩
        case measure =>
          have h1 := HS3.out.at
          have h2 := HM0.out
          have h3 := HGR.out
          rw [HBB.out] at h3
          rw [h1, h2]; omega
      · have HLN := Lib.hid (skN_line hbg)
        have HGR := Lib.hid (runN_gt (beg16 hbg))
        have hb3 := runN_le (p := nlB) (s := s) (a := b) hb2.2
        have HBH := Lib.hid hbg
        clear hbg
        go_wp2
        go_region_with (first
          | (go_at_call 63; refine (in_any _ _).mono ?_; rintro e w' ⟨rfl, rfl⟩)
          | (go_at_call 62; refine (begins_at 16 s b S W2.heap.size (W2.alloc (.cells #[.int .u8 16] 97)).drew HM.out HS2.out.allocD (World.alloc_heap_new W2 _)).mono ?_; rw [HBH.out]; rintro e W3 ⟨rfl, hs3, hg3⟩; have HS3 := Lib.hid hs3; have HG3 := Lib.hid (grown_trans (grown_allocD HG2.out _) hg3); clear hs3 hg3))
        go_wp2_with (go_at_call 64; refine (run_nl s b S W3 HM.out hb2.2 HS3.out).mono ?_; rintro e W4 ⟨rfl, hs4, hg4⟩; have HS4 := Lib.hid hs4; have HG4 := Lib.hid (grown_trans HG3.out hg4); clear hs4 hg4)
        go_roundw
        case rel => exact ⟨runN nlB s b, by omega, by omega, HS4.out, HG4.out, by rw [HLN.out, HSB.out, HR.out]⟩
        case measure =>
          have h1 := HS4.out.at
          have h2 := HM0.out
          have h3 := HGR.out
          rw [h1, h2]; omega
end Go.Proofs.YtgepfenjbjlgpaaGreatDoor
