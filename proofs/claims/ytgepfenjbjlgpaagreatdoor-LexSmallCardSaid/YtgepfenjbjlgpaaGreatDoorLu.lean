/- Package lex: one token. -/
import Derived.Test.YtgepfenjbjlgpaaGreatDoorLt
namespace Go.Proofs.YtgepfenjbjlgpaaGreatDoor
open Go.RowKit

def tokLen (l : List UInt8) : Nat := match l with
  | [] => 0
  | c :: r => if inB 10 c.toNat then (l.takeWhile fun b => inB 14 b.toNat).length else if inB 4 c.toNat then (l.takeWhile fun b => inB 4 b.toNat).length else if inB 32 c.toNat then 1 + (r.takeWhile fun b => inB 2 b.toNat).length else signL l
def tokK (l : List UInt8) (t : ByteArray) : Int := match l with
  | [] => 0
  | c :: _ => if inB 10 c.toNat then wordK t else if inB 4 c.toNat then numK t else if inB 32 c.toNat then dirK t else sigK t
def tokE (l : List UInt8) (t : ByteArray) : Int := match l with
  | [] => 0
  | c :: _ => if inB 10 c.toNat then wordE t else if inB 4 c.toNat then numE t else if inB 32 c.toNat then dirE t else sigE t

/-- A token in a block of its own. -/
def TokIn (T : Nat) (k : Int) (t : ByteArray) (a : Nat) (W : World) : Prop := W.heap[T]? = some (.cells #[.int .u8 k, .string t, .int .i64 a] 33 (0, 0))
theorem TokIn.lt {T : Nat} {k : Int} {t : ByteArray} {a : Nat} {W : World} (h : TokIn T k t a W) : T < W.heap.size := (Array.getElem?_eq_some_iff.1 h).1
theorem TokIn.f {T : Nat} {k : Int} {t : ByteArray} {a : Nat} {W : World} (h : TokIn T k t a W) (o : Nat) : W.frozen? ⟨T, o, none⟩ = false := by
  unfold World.frozen?; rw [show W.heap[(⟨T, o, none⟩ : Addr).block]? = _ from h]; simp
theorem TokIn.grown {T S : Nat} {k : Int} {t : ByteArray} {a : Nat} {W W' : World} (h : TokIn T k t a W) (hg : W.grownBy W' (some S)) (hne : S ≠ T) : TokIn T k t a W' :=
  (hg.block T h.lt (fun e => hne (by cases e; rfl))).trans h
theorem TokIn.below {T : Nat} {k : Int} {t : ByteArray} {a : Nat} {W W' : World} (h : TokIn T k t a W) (hg : Below W.heap.size W W') : TokIn T k t a W' := (hg.block T h.lt).trans h
theorem TokIn.text {T : Nat} {k : Int} {t : ByteArray} {a : Nat} {W : World} (h : TokIn T k t a W) (t' : ByteArray) : TokIn T k t' a (W.setCell ⟨T, 1, none⟩ (.string t')) := by
  unfold TokIn at *
  simp [World.setCell, Array.getElem?_modify, h]
theorem TokIn.kind {T : Nat} {k : Int} {t : ByteArray} {a : Nat} {W : World} (h : TokIn T k t a W) (k' : Int) : TokIn T k' t a (W.setCell ⟨T, 0, none⟩ (.int .u8 k')) := by
  unfold TokIn at *
  simp [World.setCell, Array.getElem?_modify, h]
theorem Scn.other {S T : Nat} {s : ByteArray} {a : Nat} {W : World} (h : Scn S s a W) (hne : S ≠ T) (o : Nat) (v : Value) : Scn S s a (W.setCell ⟨T, o, none⟩ v) :=
  (Below.heap_setCell _ _ _ _ hne).trans h


theorem ErrOk.grown {w w' : World} {S : Nat} (h : ErrOk w) (hg : w.grownBy w' (some S)) (hne : 5 ≠ S) : ErrOk w' := by
  obtain ⟨te, pe, hc⟩ := h
  refine ⟨te, pe, ?_⟩
  have hlt : 5 < w.heap.size := by
    apply Decidable.byContradiction; intro hn
    have : w.heap[5]? = none := Array.getElem?_eq_none (by omega)
    simp [World.cell?, this] at hc
  unfold World.cell? at hc ⊢
  rw [hg.block _ hlt (fun e => hne (by cases e; rfl))]
  exact hc
theorem TokIn.fin {T : Nat} {k : Int} {t : ByteArray} {a : Nat} {W : World} (h : TokIn T k t a W) : TokIn T k t a ((W.setCell ⟨T, 1, none⟩ (.string t)).setCell ⟨T, 2, none⟩ (.int .i64 a)) := by
  have h1 := h.text t
  unfold TokIn at *
  simp [World.setCell, Array.getElem?_modify, h]
theorem grown_new {w W : World} {r : Option Nat} (h : w.grownBy W r) (o : Nat) (v : Value) : w.grownBy (W.setCell ⟨w.heap.size, o, none⟩ v) r :=
  ⟨h.os, h.tape, h.output, Nat.le_trans h.size (by simp [World.setCell]), fun k hk hr => (Below.heap_setCell _ _ _ k (by simp; omega)).trans (h.block k hk hr)⟩
theorem ext_le (s : ByteArray) (a b : Nat) (h : s.size ≤ maxLen) : (s.extract a b).size ≤ maxLen := by rw [ByteArray.size_extract]; omega
theorem start_of {s : ByteArray} {a S : Nat} {w : World} (hS : Scn S s a w) : ∃ W1, w.alloc (.cells #[.int .u8 0, .string ⟨#[]⟩, .int .i64 a] 33) = W1 ∧ S < W1.heap.size ∧ Scn S s a W1 ∧ TokIn w.heap.size 0 ⟨#[]⟩ a W1 ∧ w.grownBy W1 (some S) ∧ w.heap.size < W1.heap.size :=
  ⟨_, rfl, by have := hS.lt; simp; omega, hS.below ((Below.refl _ _).alloc (Nat.le_refl _) _), World.alloc_heap_new _ _, grown_below ((Below.refl _ _).alloc (Nat.le_refl _) _), by simp⟩

theorem ext_list (s : ByteArray) (a b : Nat) : (s.extract a b).data.toList = (s.data.toList.drop a).take (b - a) := by
  exact Lib.extract_data s a b
theorem takeWhile_take {p : UInt8 → Bool} : ∀ l : List UInt8, l.take (l.takeWhile p).length = l.takeWhile p
  | [] => rfl
  | c :: r => by
    rw [List.takeWhile_cons]
    split
    · simp [takeWhile_take r]
    · rfl
theorem ext_run {p : Int → Bool} {s : ByteArray} {a : Nat} : (s.extract a (runN p s a)).data.toList = (s.data.toList.drop a).takeWhile fun b => p b.toNat := by
  rw [ext_list]; unfold runN; rw [Nat.add_sub_cancel_left, takeWhile_take]
theorem mem_tw {p : UInt8 → Bool} : ∀ (l : List UInt8) (c : UInt8), c ∈ l.takeWhile p → p c = true
  | [], _, h => by cases h
  | x :: r, c, h => by
    rw [List.takeWhile_cons] at h
    split at h
    · rcases List.mem_cons.1 h with rfl | h
      · assumption
      · exact mem_tw r c h
    · cases h
theorem ext_all {p : Int → Bool} {s : ByteArray} {a : Nat} : ∀ c ∈ (s.extract a (runN p s a)).data.toList, p c.toNat = true := by
  intro c hc; rw [ext_run] at hc
  exact mem_tw _ _ hc
theorem ext_pos {p : Int → Bool} {s : ByteArray} {a : Nat} (_ : s.size ≤ maxLen) (h : begB p s a = true) : 0 < (s.extract a (runN p s a)).size := by
  have h1 := runN_gt h
  have h2 := begB_lt h
  have h3 := (runN_le (p := p) (s := s) (a := a) (by omega)).2
  rw [ByteArray.size_extract]; omega

theorem ext_join {s : ByteArray} {a b c : Nat} (h1 : a ≤ b) (h2 : b ≤ c) : s.extract a b ++ s.extract b c = s.extract a c := by
  rw [ByteArray.extract_append_extract]; congr 1 <;> omega
theorem signL_le (l : List UInt8) : signL l ≤ l.length := by
  unfold signL
  split
  · rename_i h
    rcases l with _ | ⟨c, _ | ⟨d, r⟩⟩
    · cases h
    · unfold twoB at h
      simp at h
    · simp
  · cases l with
    | nil => simp
    | cons c r => simp; split <;> omega
theorem rest_at (s : ByteArray) (a S : Nat) (w : World) (hs : s.size ≤ maxLen) (ha : a ≤ s.size) (hS : Scn S s a w) :
    Calls Tryz.prog 38 #[.pointer (some ⟨S, 0, none⟩)] w fun e w' => e = .returned (.string (s.extract a s.size)) ∧ Scn S s a w' ∧ w.grownBy w' (some S) :=
  (rest_any s a S w hs ha hS).mono fun _ _ ⟨h, n, h'⟩ => ⟨h, by rw [h']; exact hS.drew n, by rw [h']; exact grown_drew (grown_below (Below.refl _ _)) n⟩

set_option maxRecDepth 100000 in
set_option maxHeartbeats 4000000 in
theorem token_word (s : ByteArray) (a S : Nat) (w : World) (hs : s.size ≤ maxLen) (ha : a < s.size) (hS : Scn S s a w) (H10 : Hid (begB (inB 10) s a = true)) :
    Calls Tryz.prog 39 #[.pointer (some ⟨S, 0, none⟩)] w fun e w' =>
      e = .returned (.tuple #[.agg #[.int .u8 (wordK (s.extract a (runN (inB 14) s a))), .string (s.extract a (runN (inB 14) s a)), .int .i64 a], .int .i64 (wordE (s.extract a (runN (inB 14) s a)))]) ∧
      Scn S s (runN (inB 14) s a) w' ∧ w.grownBy w' (some S) := by
  have HM := Lib.hid hs
  have hs' := hs; clear hs; unfold maxLen at hs'
  have hltS := hS.lt
  have c1 := hS.c1
  obtain ⟨W1, hW1, hlW1, hs1, ht1, hg1, hT1⟩ := start_of hS
  have HSW1 := Lib.hid hs1
  have HTW1 := Lib.hid ht1
  have HGW1 := Lib.hid hg1
  have hST : S ≠ w.heap.size := by omega
  clear hS hs1 ht1 hg1
  go_enter Tryz.func39, Tryz.ntmps39
  go_wp2

  clear hW1 c1
  go_region_with (first
    | (go_at_call 63; refine (in_any _ _).mono ?_; rintro e w' ⟨rfl, rfl⟩)
    | (go_at_call 62; refine (begins_at 10 s a S W1.heap.size (W1.alloc (.cells #[.int .u8 10] 97)).drew HM.out HSW1.out.allocD (World.alloc_heap_new W1 _)).mono ?_; rw [H10.out]; rintro e W2 ⟨rfl, hs1, hg1⟩; have hlW2 := hs1.lt; have HSW2 := Lib.hid hs1; have HGW2 := Lib.hid (grown_trans (grown_allocD HGW1.out _) hg1); have HTW2 := Lib.hid (HTW1.out.grown (grown_trans (grown_allocD (grown_below (Below.refl _ _)) _) hg1) hST); clear hs1 hg1))
  clear HSW1 HGW1 HTW1
  go_wp2
  go_region_with (first
    | (go_at_call 63; refine (in_any _ _).mono ?_; rintro e w' ⟨rfl, rfl⟩)
    | (go_at_call 64; refine (runs_in 14 s a S W2.heap.size (W2.alloc (.cells #[.int .u8 14] 97)).drew HM.out (by omega) HSW2.out.allocD (World.alloc_heap_new W2 _) (by omega)).mono ?_; rintro e W3 ⟨rfl, hs1, hg1⟩; have hT := HTW2.out.grown (grown_trans (grown_allocD (grown_below (Below.refl _ _)) _) hg1) hST; have t0 : W3.cell? ⟨w.heap.size, 0, none⟩ = some (.int .u8 0) := cells_at hT 0 _ rfl; have t1 : W3.cell? ⟨w.heap.size, 1, none⟩ = some (.string ⟨#[]⟩) := cells_at hT 1 _ rfl; have t2 : W3.cell? ⟨w.heap.size, 2, none⟩ = some (.int .i64 a) := cells_at hT 2 _ rfl; have f0 := hT.f 0; have f1 := hT.f 1; have f2 := hT.f 2; have HSW3 := Lib.hid hs1; have HGW3 := Lib.hid (grown_trans (grown_allocD HGW2.out _) hg1); have HTW3 := Lib.hid hT; clear hs1 hg1 hT))
  clear HSW2 HGW2 HTW2
  have HW := Lib.hid (fun w => word_lex (s.extract a (runN (inB 14) s a)) w (ext_le s _ _ HM.out))
  go_wp2_with (go_at_call 66; refine (HW.out _).mono ?_; rintro e w' ⟨rfl, rfl⟩)
  have hfin := (((HTW3.out.text (s.extract a (runN (inB 14) s a))).kind (wordK (s.extract a (runN (inB 14) s a)))).kind (wordK (s.extract a (runN (inB 14) s a)))).fin
  have u0 := cells_at hfin 0 (.int .u8 (wordK (s.extract a (runN (inB 14) s a)))) rfl
  have u1 := cells_at hfin 1 (.string (s.extract a (runN (inB 14) s a))) rfl
  have u2 := cells_at hfin 2 (.int .i64 a) rfl
  refine bodyPost_ret (v := .tuple #[.agg #[.int .u8 (wordK (s.extract a (runN (inB 14) s a))), .string (s.extract a (runN (inB 14) s a)), .int .i64 a], .int .i64 (wordE (s.extract a (runN (inB 14) s a)))]) (by simp [results, Tryz.results39, go_sem, u0, u1, u2]) rfl ?_
  exact ⟨rfl, ((((HSW3.out.other hST _ _).other hST _ _).other hST _ _).other hST _ _).other hST _ _, grown_new (grown_new (grown_new (grown_new (grown_new HGW3.out _ _) _ _) _ _) _ _) _ _⟩

set_option maxRecDepth 100000 in
set_option maxHeartbeats 4000000 in
theorem token_num (s : ByteArray) (a S : Nat) (w : World) (hs : s.size ≤ maxLen) (ha : a < s.size) (hS : Scn S s a w) (H10 : Hid (begB (inB 10) s a = false)) (H4 : Hid (begB (inB 4) s a = true)) (H48 : Hid (s.size ≤ 281474976710656)) (HEW : Hid (ErrOk w)) (hgS : 5 ≠ S) :
    Calls Tryz.prog 39 #[.pointer (some ⟨S, 0, none⟩)] w fun e w' =>
      e = .returned (.tuple #[.agg #[.int .u8 (numK (s.extract a (runN (inB 4) s a))), .string (s.extract a (runN (inB 4) s a)), .int .i64 a], .int .i64 (numE (s.extract a (runN (inB 4) s a)))]) ∧
      Scn S s (runN (inB 4) s a) w' ∧ w.grownBy w' (some S) := by
  have HM := Lib.hid hs
  have hs' := hs; clear hs; unfold maxLen at hs'
  have hltS := hS.lt
  have c1 := hS.c1
  obtain ⟨W1, hW1, hlW1, hs1, ht1, hg1, hT1⟩ := start_of hS
  have HSW1 := Lib.hid hs1
  have HTW1 := Lib.hid ht1
  have HGW1 := Lib.hid hg1
  have hST : S ≠ w.heap.size := by omega
  clear hS hs1 ht1 hg1
  go_enter Tryz.func39, Tryz.ntmps39
  go_wp2

  clear hW1 c1
  go_region_with (first
    | (go_at_call 63; refine (in_any _ _).mono ?_; rintro e w' ⟨rfl, rfl⟩)
    | (go_at_call 62; refine (begins_at 10 s a S W1.heap.size (W1.alloc (.cells #[.int .u8 10] 97)).drew HM.out HSW1.out.allocD (World.alloc_heap_new W1 _)).mono ?_; rw [H10.out]; rintro e W2 ⟨rfl, hs1, hg1⟩; have hlW2 := hs1.lt; have HSW2 := Lib.hid hs1; have HGW2 := Lib.hid (grown_trans (grown_allocD HGW1.out _) hg1); have HTW2 := Lib.hid (HTW1.out.grown (grown_trans (grown_allocD (grown_below (Below.refl _ _)) _) hg1) hST); clear hs1 hg1))
  clear HSW1 HGW1 HTW1
  go_wp2
  go_region_with (first
    | (go_at_call 63; refine (in_any _ _).mono ?_; rintro e w' ⟨rfl, rfl⟩)
    | (go_at_call 62; refine (begins_at 4 s a S W2.heap.size (W2.alloc (.cells #[.int .u8 4] 97)).drew HM.out HSW2.out.allocD (World.alloc_heap_new W2 _)).mono ?_; rw [H4.out]; rintro e W3 ⟨rfl, hs1, hg1⟩; have hlW3 := hs1.lt; have HSW3 := Lib.hid hs1; have HGW3 := Lib.hid (grown_trans (grown_allocD HGW2.out _) hg1); have HTW3 := Lib.hid (HTW2.out.grown (grown_trans (grown_allocD (grown_below (Below.refl _ _)) _) hg1) hST); clear hs1 hg1))
  clear HSW2 HGW2 HTW2
  go_wp2
  go_region_with (first
    | (go_at_call 63; refine (in_any _ _).mono ?_; rintro e w' ⟨rfl, rfl⟩)
    | (go_at_call 64; refine (runs_in 4 s a S W3.heap.size (W3.alloc (.cells #[.int .u8 4] 97)).drew HM.out (by omega) HSW3.out.allocD (World.alloc_heap_new W3 _) (by omega)).mono ?_; rintro e W4 ⟨rfl, hs1, hg1⟩; have hT := HTW3.out.grown (grown_trans (grown_allocD (grown_below (Below.refl _ _)) _) hg1) hST; have t0 : W4.cell? ⟨w.heap.size, 0, none⟩ = some (.int .u8 0) := cells_at hT 0 _ rfl; have t1 : W4.cell? ⟨w.heap.size, 1, none⟩ = some (.string ⟨#[]⟩) := cells_at hT 1 _ rfl; have t2 : W4.cell? ⟨w.heap.size, 2, none⟩ = some (.int .i64 a) := cells_at hT 2 _ rfl; have f0 := hT.f 0; have f1 := hT.f 1; have f2 := hT.f 2; have HSW4 := Lib.hid hs1; have HGW4 := Lib.hid (grown_trans (grown_allocD HGW3.out _) hg1); have HTW4 := Lib.hid hT; clear hs1 hg1 hT))
  clear HSW3 HGW3 HTW3
  have HN := Lib.hid (fun w => number_any (s.extract a (runN (inB 4) s a)) w (by rw [ByteArray.size_extract]; have := H48.out; omega) (ext_pos HM.out H4.out) ext_all)
  go_wp2_with (go_at_call 67; refine (HN.out _ (HEW.out.grown (grown_new HGW4.out _ _) hgS)).mono ?_; rintro e W5 ⟨rfl, hb5⟩; have hT := (HTW4.out.text (s.extract a (runN (inB 4) s a))).below hb5; have t0 : W5.cell? ⟨w.heap.size, 0, none⟩ = some (.int .u8 0) := cells_at hT 0 _ rfl; have t1 : W5.cell? ⟨w.heap.size, 1, none⟩ = some (.string (s.extract a (runN (inB 4) s a))) := cells_at hT 1 _ rfl; have t2 : W5.cell? ⟨w.heap.size, 2, none⟩ = some (.int .i64 a) := cells_at hT 2 _ rfl; have f0 := hT.f 0; have f1 := hT.f 1; have f2 := hT.f 2; have HSW5 := Lib.hid ((HSW4.out.other hST _ _).below hb5); have HGW5 := Lib.hid (grown_trans (grown_new HGW4.out _ _) (grown_below hb5)); have HTW5 := Lib.hid hT; clear hT hb5)
  have hfin := ((HTW5.out.kind (numK (s.extract a (runN (inB 4) s a)))).kind (numK (s.extract a (runN (inB 4) s a)))).fin
  have u0 := cells_at hfin 0 (.int .u8 (numK (s.extract a (runN (inB 4) s a)))) rfl
  have u1 := cells_at hfin 1 (.string (s.extract a (runN (inB 4) s a))) rfl
  have u2 := cells_at hfin 2 (.int .i64 a) rfl
  refine bodyPost_ret (v := .tuple #[.agg #[.int .u8 (numK (s.extract a (runN (inB 4) s a))), .string (s.extract a (runN (inB 4) s a)), .int .i64 a], .int .i64 (numE (s.extract a (runN (inB 4) s a)))]) (by simp [results, Tryz.results39, go_sem, u0, u1, u2]) rfl ?_
  exact ⟨rfl, ((((HSW5.out).other hST _ _).other hST _ _).other hST _ _).other hST _ _, grown_new (grown_new (grown_new (grown_new (HGW5.out) _ _) _ _) _ _) _ _⟩

set_option maxRecDepth 100000 in
set_option maxHeartbeats 4000000 in
theorem token_dir (s : ByteArray) (a S : Nat) (w : World) (hs : s.size ≤ maxLen) (ha : a < s.size) (hS : Scn S s a w) (H10 : Hid (begB (inB 10) s a = false)) (H4 : Hid (begB (inB 4) s a = false)) (H32 : Hid (begB (inB 32) s a = true)) :
    Calls Tryz.prog 39 #[.pointer (some ⟨S, 0, none⟩)] w fun e w' =>
      e = .returned (.tuple #[.agg #[.int .u8 (dirK (s.extract a (runN (inB 2) s (a + 1)))), .string (s.extract a (runN (inB 2) s (a + 1))), .int .i64 a], .int .i64 (dirE (s.extract a (runN (inB 2) s (a + 1))))]) ∧
      Scn S s (runN (inB 2) s (a + 1)) w' ∧ w.grownBy w' (some S) := by
  have HM := Lib.hid hs
  have hs' := hs; clear hs; unfold maxLen at hs'
  have hltS := hS.lt
  have c1 := hS.c1
  obtain ⟨W1, hW1, hlW1, hs1, ht1, hg1, hT1⟩ := start_of hS
  have HSW1 := Lib.hid hs1
  have HTW1 := Lib.hid ht1
  have HGW1 := Lib.hid hg1
  have hST : S ≠ w.heap.size := by omega
  clear hS hs1 ht1 hg1
  go_enter Tryz.func39, Tryz.ntmps39
  go_wp2

  clear hW1 c1
  go_region_with (first
    | (go_at_call 63; refine (in_any _ _).mono ?_; rintro e w' ⟨rfl, rfl⟩)
    | (go_at_call 62; refine (begins_at 10 s a S W1.heap.size (W1.alloc (.cells #[.int .u8 10] 97)).drew HM.out HSW1.out.allocD (World.alloc_heap_new W1 _)).mono ?_; rw [H10.out]; rintro e W2 ⟨rfl, hs1, hg1⟩; have hlW2 := hs1.lt; have HSW2 := Lib.hid hs1; have HGW2 := Lib.hid (grown_trans (grown_allocD HGW1.out _) hg1); have HTW2 := Lib.hid (HTW1.out.grown (grown_trans (grown_allocD (grown_below (Below.refl _ _)) _) hg1) hST); clear hs1 hg1))
  clear HSW1 HGW1 HTW1
  go_wp2
  go_region_with (first
    | (go_at_call 63; refine (in_any _ _).mono ?_; rintro e w' ⟨rfl, rfl⟩)
    | (go_at_call 62; refine (begins_at 4 s a S W2.heap.size (W2.alloc (.cells #[.int .u8 4] 97)).drew HM.out HSW2.out.allocD (World.alloc_heap_new W2 _)).mono ?_; rw [H4.out]; rintro e W3 ⟨rfl, hs1, hg1⟩; have hlW3 := hs1.lt; have HSW3 := Lib.hid hs1; have HGW3 := Lib.hid (grown_trans (grown_allocD HGW2.out _) hg1); have HTW3 := Lib.hid (HTW2.out.grown (grown_trans (grown_allocD (grown_below (Below.refl _ _)) _) hg1) hST); clear hs1 hg1))
  clear HSW2 HGW2 HTW2
  go_wp2
  go_region_with (first
    | (go_at_call 63; refine (in_any _ _).mono ?_; rintro e w' ⟨rfl, rfl⟩)
    | (go_at_call 62; refine (begins_at 32 s a S W3.heap.size (W3.alloc (.cells #[.int .u8 32] 97)).drew HM.out HSW3.out.allocD (World.alloc_heap_new W3 _)).mono ?_; rw [H32.out]; rintro e W4 ⟨rfl, hs1, hg1⟩; have hlW4 := hs1.lt; have HSW4 := Lib.hid hs1; have HGW4 := Lib.hid (grown_trans (grown_allocD HGW3.out _) hg1); have HTW4 := Lib.hid (HTW3.out.grown (grown_trans (grown_allocD (grown_below (Below.refl _ _)) _) hg1) hST); clear hs1 hg1))
  clear HSW3 HGW3 HTW3
  have HE := Lib.hid (Nat.max_eq_right (runN_le (p := inB 2) (s := s) (a := a + 1) (by omega)).1)
  go_wp2
  go_region_with (first
    | (go_at_call 68; refine (take_any s a 1 S W4.drew HM.out (by omega) HSW4.out).mono ?_; rintro e W5 ⟨rfl, hs1, hg1⟩; have hl5 := hs1.lt; have HSW5 := Lib.hid hs1; have HGW5 := Lib.hid (grown_trans (grown_drew HGW4.out 1) hg1); have HTW5 := Lib.hid (HTW4.out.grown (grown_trans (grown_drew (grown_below (Below.refl _ _)) 1) hg1) hST); clear hs1 hg1)
    | (go_at_call 63; refine (in_any _ _).mono ?_; rintro e w' ⟨rfl, rfl⟩)
    | (go_at_call 64; refine (runs_in 2 s (a + 1) S W5.heap.size (W5.alloc (.cells #[.int .u8 2] 97)) HM.out (by omega) HSW5.out.allocD (World.alloc_heap_new W5 _) (by omega)).mono ?_; rintro e W6 ⟨rfl, hs1, hg1⟩; have hT := HTW5.out.grown (grown_trans (grown_below ((Below.refl _ _).alloc (Nat.le_refl _) _)) hg1) hST; have t0 : W6.cell? ⟨w.heap.size, 0, none⟩ = some (.int .u8 0) := cells_at hT 0 _ rfl; have t1 : W6.cell? ⟨w.heap.size, 1, none⟩ = some (.string ⟨#[]⟩) := cells_at hT 1 _ rfl; have t2 : W6.cell? ⟨w.heap.size, 2, none⟩ = some (.int .i64 a) := cells_at hT 2 _ rfl; have f0 := hT.f 0; have f1 := hT.f 1; have f2 := hT.f 2; have HSW6 := Lib.hid hs1; have HGW6 := Lib.hid (grown_trans (grown_trans HGW5.out (grown_below ((Below.refl _ _).alloc (Nat.le_refl _) _))) hg1); have HTW6 := Lib.hid hT; clear hs1 hg1 hT))
  clear HSW4 HGW4 HTW4 HSW5 HGW5 HTW5
  rw [HE.out]
  have HD := Lib.hid (directive_any (s.extract a (runN (inB 2) s (a + 1))))
  go_wp2_with (go_at_call 69; refine (HD.out _).mono ?_; rintro e w' ⟨rfl, rfl⟩)
  have hfin := (((HTW6.out.text (s.extract a (runN (inB 2) s (a + 1)))).kind (dirK (s.extract a (runN (inB 2) s (a + 1))))).kind (dirK (s.extract a (runN (inB 2) s (a + 1))))).fin
  have u0 := cells_at hfin 0 (.int .u8 (dirK (s.extract a (runN (inB 2) s (a + 1))))) rfl
  have u1 := cells_at hfin 1 (.string (s.extract a (runN (inB 2) s (a + 1)))) rfl
  have u2 := cells_at hfin 2 (.int .i64 a) rfl
  refine bodyPost_ret (v := .tuple #[.agg #[.int .u8 (dirK (s.extract a (runN (inB 2) s (a + 1)))), .string (s.extract a (runN (inB 2) s (a + 1))), .int .i64 a], .int .i64 (dirE (s.extract a (runN (inB 2) s (a + 1))))]) (by simp [results, Tryz.results39, go_sem, u0, u1, u2]) rfl ?_
  exact ⟨rfl, ((((HSW6.out.other hST _ _).other hST _ _).other hST _ _).other hST _ _).other hST _ _, grown_new (grown_new (grown_new (grown_new (grown_new HGW6.out _ _) _ _) _ _) _ _) _ _⟩

set_option maxRecDepth 100000 in
set_option maxHeartbeats 4000000 in
theorem token_sig (s : ByteArray) (a S : Nat) (w : World) (hs : s.size ≤ maxLen) (ha : a < s.size) (hS : Scn S s a w) (H10 : Hid (begB (inB 10) s a = false)) (H4 : Hid (begB (inB 4) s a = false)) (H32 : Hid (begB (inB 32) s a = false)) :
    Calls Tryz.prog 39 #[.pointer (some ⟨S, 0, none⟩)] w fun e w' =>
      e = .returned (.tuple #[.agg #[.int .u8 (sigK (s.extract a (a + signL (s.data.toList.drop a)))), .string (s.extract a (a + signL (s.data.toList.drop a))), .int .i64 a], .int .i64 (sigE (s.extract a (a + signL (s.data.toList.drop a))))]) ∧
      Scn S s (a + signL (s.data.toList.drop a)) w' ∧ w.grownBy w' (some S) := by
  have HM := Lib.hid hs
  have hs' := hs; clear hs; unfold maxLen at hs'
  have hltS := hS.lt
  have c1 := hS.c1
  obtain ⟨W1, hW1, hlW1, hs1, ht1, hg1, hT1⟩ := start_of hS
  have HSW1 := Lib.hid hs1
  have HTW1 := Lib.hid ht1
  have HGW1 := Lib.hid hg1
  have hST : S ≠ w.heap.size := by omega
  clear hS hs1 ht1 hg1
  go_enter Tryz.func39, Tryz.ntmps39
  go_wp2

  clear hW1 c1
  go_region_with (first
    | (go_at_call 63; refine (in_any _ _).mono ?_; rintro e w' ⟨rfl, rfl⟩)
    | (go_at_call 62; refine (begins_at 10 s a S W1.heap.size (W1.alloc (.cells #[.int .u8 10] 97)).drew HM.out HSW1.out.allocD (World.alloc_heap_new W1 _)).mono ?_; rw [H10.out]; rintro e W2 ⟨rfl, hs1, hg1⟩; have hlW2 := hs1.lt; have HSW2 := Lib.hid hs1; have HGW2 := Lib.hid (grown_trans (grown_allocD HGW1.out _) hg1); have HTW2 := Lib.hid (HTW1.out.grown (grown_trans (grown_allocD (grown_below (Below.refl _ _)) _) hg1) hST); clear hs1 hg1))
  clear HSW1 HGW1 HTW1
  go_wp2
  go_region_with (first
    | (go_at_call 63; refine (in_any _ _).mono ?_; rintro e w' ⟨rfl, rfl⟩)
    | (go_at_call 62; refine (begins_at 4 s a S W2.heap.size (W2.alloc (.cells #[.int .u8 4] 97)).drew HM.out HSW2.out.allocD (World.alloc_heap_new W2 _)).mono ?_; rw [H4.out]; rintro e W3 ⟨rfl, hs1, hg1⟩; have hlW3 := hs1.lt; have HSW3 := Lib.hid hs1; have HGW3 := Lib.hid (grown_trans (grown_allocD HGW2.out _) hg1); have HTW3 := Lib.hid (HTW2.out.grown (grown_trans (grown_allocD (grown_below (Below.refl _ _)) _) hg1) hST); clear hs1 hg1))
  clear HSW2 HGW2 HTW2
  go_wp2
  go_region_with (first
    | (go_at_call 63; refine (in_any _ _).mono ?_; rintro e w' ⟨rfl, rfl⟩)
    | (go_at_call 62; refine (begins_at 32 s a S W3.heap.size (W3.alloc (.cells #[.int .u8 32] 97)).drew HM.out HSW3.out.allocD (World.alloc_heap_new W3 _)).mono ?_; rw [H32.out]; rintro e W4 ⟨rfl, hs1, hg1⟩; have hlW4 := hs1.lt; have HSW4 := Lib.hid hs1; have HGW4 := Lib.hid (grown_trans (grown_allocD HGW3.out _) hg1); have HTW4 := Lib.hid (HTW3.out.grown (grown_trans (grown_allocD (grown_below (Below.refl _ _)) _) hg1) hST); clear hs1 hg1))
  clear HSW3 HGW3 HTW3
  have HL := Lib.hid (signL_le (s.data.toList.drop a))
  have HL2 : a + signL (s.data.toList.drop a) ≤ s.size := by
    have := HL.out; have e : s.data.toList.length = s.size := rfl
    rw [List.length_drop, e] at this; omega
  have HSL := Lib.hid (signLength_any (s.extract a s.size) · (ext_le s _ _ HM.out) (by rw [ByteArray.size_extract]; omega))
  rw [show (s.extract a s.size).data.toList = s.data.toList.drop a from by rw [ext_list]; exact List.take_of_length_le (by rw [List.length_drop]; exact Nat.le_refl _)] at HSL
  go_wp2
  go_region_with (first
    | (go_at_call 38; refine (rest_at s a S W4.drew HM.out (by omega) HSW4.out).mono ?_; rintro e W5 ⟨rfl, hs1, hg1⟩; have hl5 := hs1.lt; have HSW5 := Lib.hid hs1; have HGW5 := Lib.hid (grown_trans (grown_drew HGW4.out 1) hg1); have HTW5 := Lib.hid (HTW4.out.grown (grown_trans (grown_drew (grown_below (Below.refl _ _)) 1) hg1) hST); clear hs1 hg1)
    | (go_at_call 70; refine (HSL.out _).mono ?_; rintro e w' ⟨rfl, rfl⟩)
    | (go_at_call 68; refine (take_any s a (signL (s.data.toList.drop a)) S W5 HM.out HL2 HSW5.out).mono ?_; rintro e W6 ⟨rfl, hs1, hg1⟩; have hT := HTW5.out.grown hg1 hST; have t0 : W6.cell? ⟨w.heap.size, 0, none⟩ = some (.int .u8 0) := cells_at hT 0 _ rfl; have t1 : W6.cell? ⟨w.heap.size, 1, none⟩ = some (.string ⟨#[]⟩) := cells_at hT 1 _ rfl; have t2 : W6.cell? ⟨w.heap.size, 2, none⟩ = some (.int .i64 a) := cells_at hT 2 _ rfl; have f0 := hT.f 0; have f1 := hT.f 1; have f2 := hT.f 2; have HSW6 := Lib.hid hs1; have HGW6 := Lib.hid (grown_trans HGW5.out hg1); have HTW6 := Lib.hid hT; clear hs1 hg1 hT))
  clear HSW4 HGW4 HTW4 HSW5 HGW5 HTW5
  have HD := Lib.hid (sign_any (s.extract a (a + signL (s.data.toList.drop a))))
  go_wp2_with (go_at_call 71; refine (HD.out _).mono ?_; rintro e w' ⟨rfl, rfl⟩)
  have hfin := (((HTW6.out.text (s.extract a (a + signL (s.data.toList.drop a)))).kind (sigK (s.extract a (a + signL (s.data.toList.drop a))))).kind (sigK (s.extract a (a + signL (s.data.toList.drop a))))).fin
  have u0 := cells_at hfin 0 (.int .u8 (sigK (s.extract a (a + signL (s.data.toList.drop a))))) rfl
  have u1 := cells_at hfin 1 (.string (s.extract a (a + signL (s.data.toList.drop a)))) rfl
  have u2 := cells_at hfin 2 (.int .i64 a) rfl
  refine bodyPost_ret (v := .tuple #[.agg #[.int .u8 (sigK (s.extract a (a + signL (s.data.toList.drop a)))), .string (s.extract a (a + signL (s.data.toList.drop a))), .int .i64 a], .int .i64 (sigE (s.extract a (a + signL (s.data.toList.drop a))))]) (by simp [results, Tryz.results39, go_sem, u0, u1, u2]) rfl ?_
  exact ⟨rfl, ((((HSW6.out.other hST _ _).other hST _ _).other hST _ _).other hST _ _).other hST _ _, grown_new (grown_new (grown_new (grown_new (grown_new HGW6.out _ _) _ _) _ _) _ _) _ _⟩
end Go.Proofs.YtgepfenjbjlgpaaGreatDoor
