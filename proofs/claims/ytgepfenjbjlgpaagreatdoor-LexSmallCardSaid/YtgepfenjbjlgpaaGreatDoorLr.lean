/- Package lex: the input: run, take, rest. -/
import Derived.Test.YtgepfenjbjlgpaaGreatDoorLc
import Derived.Test.YtgepfenjbjlgpaaGreatDoorTm
import Derived.Below
import Derived.Carry
import Derived.Laws.AppendOwn
namespace Go.Proofs.YtgepfenjbjlgpaaGreatDoor
open Go.RowKit

/-- The scanner's block: its source, and how far it has been read. -/
def Scn (S : Nat) (s : ByteArray) (a : Nat) (W : World) : Prop := W.heap[S]? = some (.cells #[.string s, .int .i64 a] 50 (0, 0))
theorem Scn.lt {S : Nat} {s : ByteArray} {a : Nat} {W : World} (h : Scn S s a W) : S < W.heap.size := (Array.getElem?_eq_some_iff.1 h).1
theorem Scn.c0 {S : Nat} {s : ByteArray} {a : Nat} {W : World} (h : Scn S s a W) : W.cell? ⟨S, 0, none⟩ = some (.string s) := cells_at h 0 _ rfl
theorem Scn.c1 {S : Nat} {s : ByteArray} {a : Nat} {W : World} (h : Scn S s a W) : W.cell? ⟨S, 1, none⟩ = some (.int .i64 a) := cells_at h 1 _ rfl
theorem Scn.f {S : Nat} {s : ByteArray} {a : Nat} {W : World} (h : Scn S s a W) (o : Nat) : W.frozen? ⟨S, o, none⟩ = false := by
  unfold World.frozen?; rw [show W.heap[(⟨S, o, none⟩ : Addr).block]? = _ from h]; simp
theorem Scn.below {S : Nat} {s : ByteArray} {a : Nat} {W W' : World} (h : Scn S s a W) (hb : Below W.heap.size W W') : Scn S s a W' := (hb.block S h.lt).trans h
theorem Scn.set {S : Nat} {s : ByteArray} {a : Nat} {W : World} (h : Scn S s a W) (n : Nat) : Scn S s n (W.setCell ⟨S, 1, none⟩ (.int .i64 n)) := by
  unfold Scn at *
  simp [World.setCell, Array.getElem?_modify, h]
theorem Scn.setS {S : Nat} {s : ByteArray} {a : Nat} {W : World} (h : Scn S s a W) : Scn S s (a + 1) (W.setCell ⟨S, 1, none⟩ (.int .i64 ((a : Int) + 1))) := by
  have := h.set (a + 1); rwa [show ((a + 1 : Nat) : Int) = (a : Int) + 1 from by omega] at this

/-- How far a run of bytes that pass a test reaches. -/
def runN (p : Int → Bool) (s : ByteArray) (a : Nat) : Nat := a + ((s.data.toList.drop a).takeWhile fun b => p b.toNat).length
theorem runN_step {p : Int → Bool} {s : ByteArray} {a : Nat} (h : begB p s a = true) : runN p s (a + 1) = runN p s a := by
  unfold begB at h
  split at h
  · rename_i hlt
    unfold runN
    rw [List.drop_eq_getElem_cons (by simpa using hlt : a < s.data.toList.length), List.takeWhile_cons, if_pos (show p (s.data.toList[a]'(by simpa using hlt)).toNat = true from h)]
    simp; omega
  · cases h
theorem runN_stop {p : Int → Bool} {s : ByteArray} {a : Nat} (h : begB p s a = false) : runN p s a = a := by
  unfold begB at h
  split at h
  · rename_i hlt
    unfold runN
    rw [List.drop_eq_getElem_cons (by simpa using hlt : a < s.data.toList.length), List.takeWhile_cons, if_neg (show ¬ p (s.data.toList[a]'(by simpa using hlt)).toNat = true by rw [show p (s.data.toList[a]'(by simpa using hlt)).toNat = false from h]; simp)]
    simp
  · rename_i hlt
    unfold runN
    rw [List.drop_eq_nil_of_le (by simpa using hlt)]
    simp
theorem runN_le {p : Int → Bool} {s : ByteArray} {a : Nat} (h : a ≤ s.size) : a ≤ runN p s a ∧ runN p s a ≤ s.size := by
  unfold runN
  have := (List.takeWhile_prefix (fun b : UInt8 => p b.toNat) (l := s.data.toList.drop a)).length_le
  simp at this
  have hz : s.data.size = s.size := rfl
  omega
theorem begB_lt {p : Int → Bool} {s : ByteArray} {a : Nat} (h : begB p s a = true) : a < s.size := by
  unfold begB at h
  split at h
  · assumption
  · cases h

def atW (S : Nat) (W : World) : Nat := match W.cell? ⟨S, 1, none⟩ with | some (.int _ n) => n.toNat | _ => 0
theorem Scn.at {S : Nat} {s : ByteArray} {a : Nat} {W : World} (h : Scn S s a W) : atW S W = a := by unfold atW; rw [h.c1]; simp
theorem grown_set (W : World) (b o : Nat) (v : Value) : W.grownBy (W.setCell ⟨b, o, none⟩ v) (some b) :=
  ⟨rfl, rfl, rfl, by simp [World.setCell], fun k _ hk => Below.heap_setCell _ _ _ k (fun e => hk (by rw [e]))⟩
theorem grown_trans {A B C : World} {r : Option Nat} (h : A.grownBy B r) (k : B.grownBy C r) : A.grownBy C r :=
  ⟨k.os.trans h.os, k.tape.trans h.tape, k.output.trans h.output, Nat.le_trans h.size k.size, fun i hi hr => (k.block i (Nat.lt_of_lt_of_le hi h.size) hr).trans (h.block i hi hr)⟩
theorem grown_below {A B : World} {r : Option Nat} (h : Below A.heap.size A B) : A.grownBy B r := ⟨h.os, h.tape, h.output, h.size, fun k hk _ => h.block k hk⟩
theorem grown_drew {A B : World} {r : Option Nat} (h : A.grownBy B r) (n : Nat) : A.grownBy (B.drewN n) r := ⟨h.os, h.tape, h.output, h.size, h.block⟩
theorem Scn.drew {S : Nat} {s : ByteArray} {a : Nat} {W : World} (h : Scn S s a W) (n : Nat) : Scn S s a (W.drewN n) := h
theorem boxK {k : Int} {b : Nat} {W : World} (h : W.heap[b]? = some (.cells #[.int .u8 k] 97 (0, 0))) : W.cell? ⟨b, 0, none⟩ = some (.int .u8 k) := cells_at h 0 _ rfl

set_option maxRecDepth 100000 in
set_option maxHeartbeats 2000000 in
theorem runs_in (k : Int) (s : ByteArray) (a S b : Nat) (w : World) (hs : s.size ≤ maxLen) (ha : a ≤ s.size) (hS : Scn S s a w) (hb : w.heap[b]? = some (.cells #[.int .u8 k] 97 (0, 0))) (hne : b ≠ S) :
    Calls Tryz.prog 64 #[.pointer (some ⟨S, 0, none⟩), .func (.func 86) #[] #[.pointer (some ⟨b, 0, none⟩)]] w fun e w' =>
      e = .returned (.string (s.extract a (runN (inB k) s a))) ∧ Scn S s (runN (inB k) s a) w' ∧ w.grownBy w' (some S) := by
  have HS := Lib.hid hs
  unfold maxLen at hs
  have c1 := hS.c1
  have HSC := Lib.hid hS
  have HB := Lib.hid hb
  clear hb hS
  go_enter Tryz.func64, Tryz.ntmps64
  go_wp2
  clear c1
  go_loopw [12] (fun _ wr => ∃ j, a ≤ j ∧ j ≤ s.size ∧ Scn S s j wr ∧ w.grownBy wr (some S) ∧ runN (inB k) s j = runN (inB k) s a) (fun _ wr => s.size - atW S wr)
  case atStart => exact ⟨a, Nat.le_refl _, ha, HSC.out, grown_below (Below.refl _ _), rfl⟩
  case round =>
    obtain ⟨j, haj, hj, hSj, hg, hr⟩ := hrel
    have hm := hSj.at
    have c0 := hSj.c0
    have c1 := hSj.c1
    have f1 := hSj.f 1
    have HSJ := Lib.hid hSj
    have HG := Lib.hid hg
    have HR := Lib.hid hr
    have hbx : wr.cell? ⟨b, 0, none⟩ = some (.int .u8 k) := boxK ((hg.block b (Array.getElem?_eq_some_iff.1 HB.out).1 (fun e => hne (by cases e; rfl))).trans HB.out)
    have HBX := Lib.hid hbx
    clear hSj hg hr hbx
    cases hbg : begB (inB k) s j
    · have HE := Lib.hid (runN_stop hbg)
      have HBG := Lib.hid hbg
      clear hbg
      go_wp2_with (go_at_call 62; refine (begins_in k s j S b _ HS.out c0 c1 HBX.out).mono ?_; rw [HBG.out]; rintro e w' ⟨rfl, n, rfl⟩)
      go_quiet (fail)
      go_wp2
      go_ret
      have hR := HR.out
      rw [HE.out] at hR
      rw [← hR]
      exact ⟨rfl, (HSJ.out.drew n).drew nq, grown_drew (grown_drew HG.out n) nq⟩
    · have hlt := begB_lt hbg
      have HE := Lib.hid (runN_step hbg)
      have HBG := Lib.hid hbg
      clear hbg
      go_wp2_with (go_at_call 62; refine (begins_in k s j S b _ HS.out c0 c1 HBX.out).mono ?_; rw [HBG.out]; rintro e w' ⟨rfl, n, rfl⟩)
      go_roundw
      case rel => exact ⟨j + 1, by omega, by omega, (HSJ.out.drew n).setS, grown_trans (grown_drew HG.out n) (grown_set _ _ _ _), by rw [HE.out, HR.out]⟩
      case measure =>
        have h1 := ((HSJ.out.drew n).setS).at
        have h2 := HSJ.out.at
        rw [h1, h2]; omega
set_option maxRecDepth 100000 in
set_option maxHeartbeats 2000000 in
theorem run_nl (s : ByteArray) (a S : Nat) (w : World) (hs : s.size ≤ maxLen) (ha : a ≤ s.size) (hS : Scn S s a w) :
    Calls Tryz.prog 64 #[.pointer (some ⟨S, 0, none⟩), .func (.func 65) #[] #[]] w fun e w' =>
      e = .returned (.string (s.extract a (runN (nlB) s a))) ∧ Scn S s (runN (nlB) s a) w' ∧ w.grownBy w' (some S) := by
  have HS := Lib.hid hs
  unfold maxLen at hs
  have c1 := hS.c1
  have HSC := Lib.hid hS
  clear hS
  go_enter Tryz.func64, Tryz.ntmps64
  go_wp2
  clear c1
  go_loopw [12] (fun _ wr => ∃ j, a ≤ j ∧ j ≤ s.size ∧ Scn S s j wr ∧ w.grownBy wr (some S) ∧ runN (nlB) s j = runN (nlB) s a) (fun _ wr => s.size - atW S wr)
  case atStart => exact ⟨a, Nat.le_refl _, ha, HSC.out, grown_below (Below.refl _ _), rfl⟩
  case round =>
    obtain ⟨j, haj, hj, hSj, hg, hr⟩ := hrel
    have hm := hSj.at
    have c0 := hSj.c0
    have c1 := hSj.c1
    have f1 := hSj.f 1
    have HSJ := Lib.hid hSj
    have HG := Lib.hid hg
    have HR := Lib.hid hr
    clear hSj hg hr
    cases hbg : begB (nlB) s j
    · have HE := Lib.hid (runN_stop hbg)
      have HBG := Lib.hid hbg
      clear hbg
      go_wp2_with (go_at_call 62; refine (begins_nl s j S _ HS.out c0 c1).mono ?_; rw [HBG.out]; rintro e w' ⟨rfl, n, rfl⟩)
      go_quiet (fail)
      go_wp2
      go_ret
      have hR := HR.out
      rw [HE.out] at hR
      rw [← hR]
      exact ⟨rfl, (HSJ.out.drew n).drew nq, grown_drew (grown_drew HG.out n) nq⟩
    · have hlt := begB_lt hbg
      have HE := Lib.hid (runN_step hbg)
      have HBG := Lib.hid hbg
      clear hbg
      go_wp2_with (go_at_call 62; refine (begins_nl s j S _ HS.out c0 c1).mono ?_; rw [HBG.out]; rintro e w' ⟨rfl, n, rfl⟩)
      go_roundw
      case rel => exact ⟨j + 1, by omega, by omega, (HSJ.out.drew n).setS, grown_trans (grown_drew HG.out n) (grown_set _ _ _ _), by rw [HE.out, HR.out]⟩
      case measure =>
        have h1 := ((HSJ.out.drew n).setS).at
        have h2 := HSJ.out.at
        rw [h1, h2]; omega

set_option maxRecDepth 100000 in
set_option maxHeartbeats 2000000 in
theorem take_any (s : ByteArray) (a n S : Nat) (w : World) (hs : s.size ≤ maxLen) (ha : a + n ≤ s.size) (hS : Scn S s a w) :
    Calls Tryz.prog 68 #[.pointer (some ⟨S, 0, none⟩), .int .i64 n] w fun e w' =>
      e = .returned (.string (s.extract a (a + n))) ∧ Scn S s (a + n) w' ∧ w.grownBy w' (some S) := by
  unfold maxLen at hs
  have c0 := hS.c0
  have c1 := hS.c1
  have f1 := hS.f 1
  have h2 := hS.set (a + n)
  rw [show ((a + n : Nat) : Int) = (a : Int) + (n : Int) from by omega] at h2
  have d0 := h2.c0
  have d1 := cells_at h2 1 _ rfl
  have HSC := Lib.hid h2
  have hn : (a : Int) + n ≤ s.size := by omega
  clear hS h2
  go_enter Tryz.func68, Tryz.ntmps68
  go_wp2
  go_quiet (fail)
  go_wp2
  go_ret
  exact ⟨rfl, HSC.out.drew nq, grown_drew (grown_set _ _ _ _) nq⟩

set_option maxRecDepth 100000 in
set_option maxHeartbeats 2000000 in
theorem rest_any (s : ByteArray) (a S : Nat) (w : World) (hs : s.size ≤ maxLen) (ha : a ≤ s.size) (hS : Scn S s a w) :
    Calls Tryz.prog 38 #[.pointer (some ⟨S, 0, none⟩)] w fun e w' =>
      e = .returned (.string (s.extract a s.size)) ∧ ∃ n, w' = w.drewN n := by
  have hs' := hs; clear hs; unfold maxLen at hs'
  have c0 := hS.c0
  have c1 := hS.c1
  clear hS
  go_enter Tryz.func38, Tryz.ntmps38
  go_wp2
  go_quiet (fail)
  go_wp2
  go_ret
  exact ⟨rfl, _, rfl⟩
end Go.Proofs.YtgepfenjbjlgpaaGreatDoor
