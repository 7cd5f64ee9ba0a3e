/- The laws of lex: the program and the reference model agree at every source. -/
import Derived.Test.YtgepfenjbjlgpaaGreatDoorMd
namespace Go.Proofs.YtgepfenjbjlgpaaGreatDoor
open Go.RowKit

set_option maxRecDepth 100000 in
set_option maxHeartbeats 4000000 in
theorem same_any (toks : List Tk) (v u : Value) (w : World) (hV : IsToks w.heap.size w v toks) (hU : IsToksR w.heap.size w u toks) (hlen : toks.length ≤ 1048576) (hk : KOk toks) :
    Calls Tryz.prog 16 #[v, u] w fun e w' => e = .returned (.bool true) ∧ Below w.heap.size w w' := by
  have HT := Lib.hid (theirs_any toks v w hV hlen hk)
  obtain ⟨p, cap, rfl, hcV⟩ := hV
  obtain ⟨p2, cap2, rfl, hcells⟩ := hU
  have HC := Lib.hid hcells
  clear hcells hcV
  go_enter Tryz.func16, Tryz.ntmps16
  go_wp2_with fail
  refine HT.out.mono ?_
  clear HT
  rintro e W1 ⟨m, rfl, hrow, hB⟩
  obtain ⟨p3, cap3, rfl, hcells3⟩ := isToksR_of_row hrow
  have HM := Lib.hid hcells3
  have HBW := Lib.hid hB
  have hz := hB.size
  clear hcells3 hrow hB
  go_wp2_with fail
  go_loopw [6] (fun i wr => ∃ k : Nat, k ≤ toks.length ∧ i = .int .i64 k ∧ Below W1.heap.size W1 wr) (fun i _ => toks.length - (intOf i).toNat)
  case atStart => exact ⟨0, Nat.zero_le _, rfl, Below.refl _ _⟩
  case round =>
    obtain ⟨k, hkl, rfl, hb⟩ := hrel
    by_cases hlt : k < toks.length
    · have hne : toks ≠ [] := by intro e; rw [e] at hlt; simp at hlt
      obtain ⟨b, off, rfl, hbn, hc⟩ := HC.out hne
      obtain ⟨b', off', rfl, hbn', hc'⟩ := HM.out hne
      obtain ⟨x, hx⟩ : ∃ x, toks[k]? = some x := ⟨toks[k], List.getElem?_eq_getElem hlt⟩
      obtain ⟨k0, k1, k2⟩ := hc k x hx
      obtain ⟨j0, j1, j2⟩ := hc' k x hx
      have hbW := HBW.out.trans (hb.mono hz)
      have g0 := (hbW.cell (p := ⟨b, off + k * 3, none⟩) hbn).trans k0
      have g1 := (hbW.cell (p := ⟨b, off + k * 3 + 1, none⟩) hbn).trans k1
      have g2 := (hbW.cell (p := ⟨b, off + k * 3 + 2, none⟩) hbn).trans k2
      have q0 := (hb.cell (p := ⟨b', off' + k * 3, none⟩) hbn').trans j0
      have q1 := (hb.cell (p := ⟨b', off' + k * 3 + 1, none⟩) hbn').trans j1
      have q2 := (hb.cell (p := ⟨b', off' + k * 3 + 2, none⟩) hbn').trans j2
      obtain ⟨xk, hxk⟩ : ∃ xk, x.k = xk := ⟨_, rfl⟩
      obtain ⟨xt, hxt⟩ : ∃ xt, x.t = xt := ⟨_, rfl⟩
      obtain ⟨xa, hxa⟩ : ∃ xa : Int, (x.a : Int) = xa := ⟨_, rfl⟩
      rw [hxk] at g0 q0
      rw [hxt] at g1 q1
      rw [hxa] at g2 q2
      have i1 : (0 : Int) ≤ (k : Int) := by omega
      have i2 : (k : Int) < (toks.length : Int) := by omega
      have n1 : ((xk : Int) != (xk : Int)) = false := by simp
      have n2 : (xt.toList == xt.toList) = true := by simp
      have n3 : (xt.toList != xt.toList) = false := by simp
      have n4 : ((xa : Int) != (xa : Int)) = false := by simp
      have HBB := Lib.hid hb
      clear hb hbW hc hc' k0 k1 k2 j0 j1 j2 hxk hxt hxa hx hne
      go_wp2_with fail
      go_quiet (fail)
      go_wp2_with fail
      go_roundw
      case rel =>
        have h := HBB.out
        exact ⟨k + 1, by omega, by go_num, ⟨h.os, h.tape, h.output, h.size, h.block⟩⟩
      case measure => simp [intOf]; omega
    · have HBB := Lib.hid hb
      clear hb
      go_wp2
      go_ret
      exact ⟨rfl, HBW.out.trans (HBB.out.mono hz)⟩

/-! ### What the tokens of a source are like -/
theorem tokAt_k (s : ByteArray) (a : Nat) : 0 ≤ (tokAt s a).k ∧ (tokAt s a).k < 256 := by
  show 0 ≤ tkK s a _ ∧ tkK s a _ < 256
  unfold tkK wordK numK dirK sigK
  repeat' split
  all_goals omega
theorem lexF_all {P : Tk → Prop} {s : ByteArray} (h : ∀ a, P (tokAt s a)) : ∀ (f a : Nat), ∀ x ∈ lexF f s a, P x
  | 0, _, x, hx => by simp [lexF] at hx
  | f + 1, a, x, hx => by
    unfold lexF at hx
    split at hx
    · split at hx
      · rcases List.mem_cons.1 hx with h1 | h1
        · rw [h1]; exact h _
        · exact lexF_all h f _ x h1
      · have : x = tokAt s (skN s a) := by simpa using hx
        rw [this]; exact h _
    · simp at hx
theorem lexAll_k (s : ByteArray) : KOk (lexAll s) := lexF_all (P := fun x => 0 ≤ x.k ∧ x.k < 256) (tokAt_k s) _ 0
theorem lexAll_t {s : ByteArray} : ∀ x ∈ lexAll s, x.t.size ≤ s.size := lexF_all (P := fun x => x.t.size ≤ s.size) (fun a => by
  show (s.extract a (tokN s a)).size ≤ s.size
  rw [ByteArray.size_extract]; omega) _ 0
theorem joinL_crude {m : Nat} (l : List Tk) (h : ∀ x ∈ l, x.t.size ≤ m) : ∀ j, j ≤ l.length → (joinL (l.take j)).length ≤ j * (m + 1)
  | 0, _ => by rw [List.take_zero]; exact Nat.zero_le _
  | j + 1, hj => by
    have ih := joinL_crude l h j (by omega)
    obtain ⟨x, hx⟩ : ∃ x, l[j]? = some x := ⟨l[j], List.getElem?_eq_getElem (by omega)⟩
    have hm := h x (List.mem_of_getElem? hx)
    have hm' : x.t.data.toList.length ≤ m := hm
    rw [take_snocT hx, Nat.add_mul, Nat.one_mul]
    cases hl : l.take j with
    | nil => rw [List.nil_append, joinL_one]; omega
    | cons y z =>
      rw [hl] at ih
      rw [joinL_snoc _ _ (by simp), List.length_append, List.length_cons]; omega
theorem joinL_lexAll {s : ByteArray} (hs : s.size ≤ 32768) : (joinL (lexAll s)).length ≤ 140737488355328 := by
  have h := joinL_crude (lexAll s) (m := 32768) (fun x hx => Nat.le_trans (lexAll_t x hx) hs) (lexAll s).length (Nat.le_refl _)
  rw [List.take_length] at h
  have h2 := lexAll_le s
  have h3 : (lexAll s).length * (32768 + 1) ≤ 32768 * (32768 + 1) := Nat.mul_le_mul_right _ (by omega)
  omega

set_option maxRecDepth 100000 in
set_option maxHeartbeats 4000000 in
/-- The law's comparison, where both give the same tokens, offset and error. -/
theorem lexes_at (s : ByteArray) (w : World) (toks : List Tk) (at' : Int) (er : Int)
    (hL : Calls Tryz.prog 9 #[.string s] w fun e w' => ∃ v, e = .returned (.tuple #[v, .int .i64 at', .int .i64 er]) ∧ IsToks w'.heap.size w' v toks ∧ Below w.heap.size w w')
    (hR : ∀ w : World, Calls Tryz.prog 15 #[.string s] w fun e w' => ∃ v, e = .returned (.tuple #[v, .int .i64 at', .int .i64 er]) ∧ IsToksR w'.heap.size w' v toks ∧ Below w.heap.size w w')
    (hk : KOk toks) (hlen : toks.length ≤ 1048576) (hj : (joinL toks).length ≤ 140737488355328) :
    Calls Tryz.prog 7 #[.string s] w fun e w' => e = .returned (.bool true) ∧ Below w.heap.size w w' := by
  have HL := Lib.hid hL
  have HR := Lib.hid hR
  clear hL hR
  go_enter Tryz.func7, Tryz.ntmps7
  go_wp2_with fail
  refine HL.out.mono ?_
  clear HL
  rintro e W1 ⟨v, rfl, hV, hB1⟩
  have HV := Lib.hid hV
  have HB1 := Lib.hid hB1
  clear hV hB1
  go_wp2_with fail
  refine (HR.out W1).mono ?_
  clear HR
  rintro e W2 ⟨u, rfl, hU, hB2⟩
  have hV2 : IsToks W2.heap.size W2 v toks := (HV.out.below hB2).mono hB2.size
  have HS := Lib.hid (same_any toks v u W2 hV2 hU hlen hk)
  have HV2 := Lib.hid hV2
  have HU2 := Lib.hid hU
  have HB2 := Lib.hid (HB1.out.trans (hB2.mono HB1.out.size))
  have n1 : (at' == at') = true := by simp
  have n2 : (er == er) = true := by simp
  clear hV2 hU hB2 HB1 HV
  go_wp2_with fail
  refine HS.out.mono ?_
  clear HS
  rintro e W3 ⟨rfl, hB3⟩
  have HJ := Lib.hid (join_any toks v W3 ((HV2.out.below hB3).mono hB3.size) (by omega) hj)
  have HU3 := Lib.hid ((HU2.out.below hB3).mono hB3.size)
  have HB3 := Lib.hid (HB2.out.trans (hB3.mono HB2.out.size))
  clear hB3 HU2 HV2 HB2
  go_wp2_with fail
  refine HJ.out.mono ?_
  clear HJ
  rintro e W4 ⟨rfl, hB4⟩
  have HRJ := Lib.hid (rjoin_any toks u W4 ((HU3.out.below hB4).mono hB4.size) (by omega) hj)
  have HB4 := Lib.hid (HB3.out.trans (hB4.mono HB3.out.size))
  generalize joinB toks = jb at HRJ ⊢
  have n3 : (jb.toList == jb.toList) = true := by simp
  clear hB4 HU3 HB3
  go_wp2_with fail
  refine HRJ.out.mono ?_
  clear HRJ
  rintro e W5 ⟨rfl, rfl⟩
  go_wp2
  go_ret
  exact ⟨rfl, HB4.out⟩

theorem noToks (B : Nat) (w : World) : IsToks B w (.slice none 0 0) [] := ⟨none, 0, rfl, fun h => absurd rfl h⟩
theorem noToksR (B : Nat) (w : World) : IsToksR B w (.slice none 0 0) [] := ⟨none, 0, rfl, fun h => absurd rfl h⟩
set_option maxRecDepth 100000 in
set_option maxHeartbeats 1000000 in
theorem rlex_long (s : ByteArray) (w : World) (hs : 32768 < s.size) :
    Calls Tryz.prog 15 #[.string s] w fun e w' => e = .returned (.tuple #[.slice none 0 0, .int .i64 0, .int .i64 3]) ∧ w = w' := by
  have hd : decide ((32768 : Int) < (s.size : Int)) = true := by simp; omega
  go_enter Tryz.func15, Tryz.ntmps15
  go_wp2
  refine bodyPost_ret (v := .tuple #[.slice none 0 0, .int .i64 0, .int .i64 3]) (by simp [results, Tryz.results15, go_sem]) rfl ?_
  exact ⟨rfl, rfl⟩
theorem kNil : KOk [] := fun x h => by simp at h

/-- The law's comparison at any source. -/
theorem lexes_any (s : ByteArray) (w : World) (hE : ErrOk w) :
    Calls Tryz.prog 7 #[.string s] w fun e w' => e = .returned (.bool true) ∧ Below w.heap.size w w' := by
  by_cases hs : s.size ≤ 32768
  · cases hx : lexErr s with
    | none =>
      refine lexes_at s w (lexAll s) 0 0 (lex_ok s w hs hE hx) (fun w => (rlex_any s w hs).mono ?_) (lexAll_k s) (by have := lexAll_le s; omega) (joinL_lexAll hs)
      rintro e w' h
      unfold RPost at h; rw [hx] at h
      obtain ⟨hb, v, h1, h2⟩ := h
      exact ⟨v, h1, isToksR_of_row h2, hb⟩
    | some x =>
      refine lexes_at s w [] x.a x.e ((lex_err s w hs hE x hx).mono ?_) (fun w => (rlex_any s w hs).mono ?_) kNil (by simp) (Nat.zero_le _)
      · rintro e w' ⟨h1, h2⟩
        exact ⟨_, h1, noToks _ _, h2⟩
      · rintro e w' h
        unfold RPost at h; rw [hx] at h
        exact ⟨_, h.2, noToksR _ _, h.1⟩
  · refine lexes_at s w [] 0 3 ((lex_long s w (by omega)).mono ?_) (fun w => (rlex_long s w (by omega)).mono ?_) kNil (by simp) (Nat.zero_le _)
    · rintro e w' ⟨h1, h2⟩
      exact ⟨_, h1, noToks _ _, h2⟩
    · rintro e w' ⟨h1, rfl⟩
      exact ⟨_, h1, noToksR _ _, Below.refl _ _⟩

set_option maxHeartbeats 2000000 in
theorem tells_any (s : ByteArray) (w : World) (hs : s.size ≤ maxLen) (hE : ErrOk w) :
    Calls Tryz.prog 3 #[.string s] w fun e w' => e = .returned (.bool true) ∧ Below w.heap.size w w' := by
  have HA := Lib.hid (lexAwake_any w hE)
  have HX := Lib.hid (lexes_any s w hE)
  have HE := Lib.hid hE
  clear hE
  unfold maxLen at hs
  by_cases h4 : s.size ≤ 4000
  · have hd : decide ((4000 : Int) < (s.size : Int)) = false := by simp; omega
    go_enter Tryz.func3, Tryz.ntmps3
    go_wp2_with fail
    refine HX.out.mono ?_
    rintro e W1 ⟨rfl, hB1⟩
    have HB1 := Lib.hid hB1
    have HA1 := Lib.hid (lexAwake_any W1 (HE.out.below hB1))
    clear hB1
    go_wp2_with fail
    refine HA1.out.mono ?_
    rintro e W2 ⟨rfl, hB2⟩
    have HB2 := Lib.hid hB2
    clear hB2
    go_wp2
    go_ret
    exact ⟨rfl, HB1.out.trans (HB2.out.mono HB1.out.size)⟩
  · have hd : decide ((4000 : Int) < (s.size : Int)) = true := by simp; omega
    go_enter Tryz.func3, Tryz.ntmps3
    go_wp2_with fail
    refine HA.out.mono ?_
    rintro e W1 ⟨rfl, hB1⟩
    have HB1 := Lib.hid hB1
    clear hB1
    go_wp2
    go_ret
    exact ⟨rfl, HB1.out⟩
end Go.Proofs.YtgepfenjbjlgpaaGreatDoor
