/- Package lex: the tokens of a source as a list, and the iterator over them. -/
import Derived.Test.YtgepfenjbjlgpaaGreatDoorLu
import Derived.Test.YtgepfenjbjlgpaaGreatDoorLi
namespace Go.Proofs.YtgepfenjbjlgpaaGreatDoor
open Go.RowKit
attribute [local go_sem] Oper.semAt_some

/-- A token, or what stands in its place, with its error. -/
structure Tk where
  k : Int
  t : ByteArray
  a : Nat
  e : Int
def Tk.agg (x : Tk) : Value := .agg #[.int .u8 x.k, .string x.t, .int .i64 x.a]
def Tk.val (x : Tk) : Array Value := #[x.agg, .int .i64 x.e]

/-- Where the token that begins at a ends. -/
def tokN (s : ByteArray) (a : Nat) : Nat := if begB (inB 10) s a then runN (inB 14) s a else if begB (inB 4) s a then runN (inB 4) s a else if begB (inB 32) s a then runN (inB 2) s (a + 1) else a + signL (s.data.toList.drop a)
def tkK (s : ByteArray) (a : Nat) (x : ByteArray) : Int := if begB (inB 10) s a then wordK x else if begB (inB 4) s a then numK x else if begB (inB 32) s a then dirK x else sigK x
def tkE (s : ByteArray) (a : Nat) (x : ByteArray) : Int := if begB (inB 10) s a then wordE x else if begB (inB 4) s a then numE x else if begB (inB 32) s a then dirE x else sigE x
def tokAt (s : ByteArray) (a : Nat) : Tk := ⟨tkK s a (s.extract a (tokN s a)), s.extract a (tokN s a), a, tkE s a (s.extract a (tokN s a))⟩

theorem token_any (s : ByteArray) (a S : Nat) (w : World) (hs : s.size ≤ 281474976710656) (ha : a < s.size) (hS : Scn S s a w) (hE : ErrOk w) (hgS : 5 ≠ S) :
    Calls Tryz.prog 39 #[.pointer (some ⟨S, 0, none⟩)] w fun e w' => e = .returned (.tuple (tokAt s a).val) ∧ Scn S s (tokN s a) w' ∧ w.grownBy w' (some S) := by
  have hm : s.size ≤ maxLen := by unfold maxLen; omega
  unfold tokAt tkK tkE Tk.val Tk.agg tokN
  cases h10 : begB (inB 10) s a
  · cases h4 : begB (inB 4) s a
    · cases h32 : begB (inB 32) s a
      · exact token_sig s a S w hm ha hS (Lib.hid h10) (Lib.hid h4) (Lib.hid h32)
      · exact token_dir s a S w hm ha hS (Lib.hid h10) (Lib.hid h4) (Lib.hid h32)
    · exact token_num s a S w hm ha hS (Lib.hid h10) (Lib.hid h4) (Lib.hid hs) (Lib.hid hE) hgS
  · exact token_word s a S w hm ha hS (Lib.hid h10)

theorem tokN_le {s : ByteArray} {a : Nat} (ha : a < s.size) : a ≤ tokN s a ∧ tokN s a ≤ s.size := by
  unfold tokN
  split
  · exact runN_le (by omega)
  · split
    · exact runN_le (by omega)
    · split
      · have := runN_le (p := inB 2) (s := s) (a := a + 1) (by omega); omega
      · have h := signL_le (s.data.toList.drop a)
        have e : s.data.toList.length = s.size := rfl
        rw [List.length_drop, e] at h; omega
theorem in10_14 {c : Int} (h : inB 10 c = true) : inB 14 c = true := by
  unfold inB at h ⊢
  rcases cls_lit c with e | e | e | e | e | e | e <;> rw [e] at h ⊢ <;> first | rfl | cases h
theorem beg10_14 {s : ByteArray} {a : Nat} (h : begB (inB 10) s a = true) : begB (inB 14) s a = true := by
  unfold begB at h ⊢
  split at h
  · rename_i hl; rw [dif_pos hl]; exact in10_14 h
  · cases h
theorem tokN_gt {s : ByteArray} {a : Nat} (ha : a < s.size) (h : (tokAt s a).e = 0) : a < tokN s a := by
  unfold tokAt tkE at h
  simp only [] at h
  unfold tokN at h ⊢
  split
  · rename_i h1; exact runN_gt (beg10_14 h1)
  · rename_i h1
    rw [if_neg h1, if_neg h1] at h
    split
    · rename_i h2; exact runN_gt h2
    · rename_i h2
      rw [if_neg h2, if_neg h2] at h
      split
      · have := runN_le (p := inB 2) (s := s) (a := a + 1) (by omega); omega
      · rename_i h3
        rw [if_neg h3, if_neg h3] at h
        apply Decidable.byContradiction; intro hn
        have h0 : signL (s.data.toList.drop a) = 0 := by omega
        rw [h0] at h
        have hz : (s.extract a (a + 0)).size = 0 := by rw [ByteArray.size_extract]; omega
        have hl : (s.extract a (a + 0)).toList.isEmpty = true := by
          rw [toList_data]
          have : (s.extract a (a + 0)).data.toList.length = 0 := hz
          rw [List.length_eq_zero_iff] at this; rw [this]; rfl
        unfold sigE at h; rw [if_pos hl] at h; cases h

/-- The tokens from an offset on, up to the first error. -/
def lexF : Nat → ByteArray → Nat → List Tk
  | 0, _, _ => []
  | f + 1, s, a => if skN s a < s.size then (if (tokAt s (skN s a)).e = 0 then tokAt s (skN s a) :: lexF f s (tokN s (skN s a)) else [tokAt s (skN s a)]) else []
def lexAll (s : ByteArray) : List Tk := lexF (s.size + 1) s 0

theorem sk_sk : ∀ (l : List UInt8) (b : Bool), sk false (sk b l) = sk b l
  | [], b => by cases b <;> rfl
  | c :: r, false => by
    by_cases h1 : inB 1 c.toNat = true
    · have e : sk false (c :: r) = sk false r := by (conv => lhs; unfold sk); rw [if_pos h1]
      rw [e]; exact sk_sk r false
    · by_cases h2 : inB 16 c.toNat = true
      · have e : sk false (c :: r) = sk true r := by (conv => lhs; unfold sk); rw [if_neg h1, if_pos h2]
        rw [e]; exact sk_sk r true
      · have e : sk false (c :: r) = c :: r := by (conv => lhs; unfold sk); rw [if_neg h1, if_neg h2]
        rw [e, e]
  | c :: r, true => by
    by_cases h1 : nlB c.toNat = true
    · have e : sk true (c :: r) = sk true r := by (conv => lhs; unfold sk); rw [if_pos h1]
      rw [e]; exact sk_sk r true
    · have e : sk true (c :: r) = sk false r := by (conv => lhs; unfold sk); rw [if_neg h1]
      rw [e]; exact sk_sk r false
theorem skN_idem {s : ByteArray} {a : Nat} : skN s (skN s a) = skN s a := by
  have h := skN_drop (s := s) (a := a)
  have : sk false (sk false (s.data.toList.drop a)) = sk false (s.data.toList.drop a) := by
    generalize s.data.toList.drop a = l
    exact sk_sk l false
  show s.size - (sk false (s.data.toList.drop (skN s a))).length = _
  rw [h, this]; rfl
theorem lexF_skip (f : Nat) (s : ByteArray) (a : Nat) : lexF f s (skN s a) = lexF f s a := by
  cases f with
  | zero => rfl
  | succ f => unfold lexF; rw [skN_idem]

/-- What the iterator does between two rounds: new blocks, and the scanner's block. -/
def AbS (S : Nat) (s : ByteArray) (A B : World) : Prop := A.grownBy B (some S) ∧ ∃ j, Scn S s j A
/-- What a round keeps. -/
def KpS (S Cb : Nat) (A B : World) : Prop := A.heap.size ≤ B.heap.size ∧ ∀ k, (k = S ∨ k = Cb ∨ k = 5) → ∀ o : Obj, A.heap[k]? = some o → o.isCells = true → B.heap[k]? = some o
theorem KpS.trans {S Cb : Nat} {A B C : World} (h : KpS S Cb A B) (k : KpS S Cb B C) : KpS S Cb A C := ⟨Nat.le_trans h.1 k.1, fun i hi o h1 h2 => k.2 i hi o (h.2 i hi o h1 h2) h2⟩
theorem KpS.scn {S Cb : Nat} {A B : World} (h : KpS S Cb A B) {s : ByteArray} {j : Nat} (hs : Scn S s j A) : Scn S s j B := h.2 S (.inl rfl) _ hs rfl
theorem KpS.err {S Cb : Nat} {A B : World} (h : KpS S Cb A B) (hs : ErrOk A) : ErrOk B := by
  obtain ⟨te, pe, hc⟩ := hs
  refine ⟨te, pe, ?_⟩
  unfold World.cell? at hc ⊢
  cases ho : A.heap[5]? with
  | none => simp [ho] at hc
  | some o =>
    have hcl : o.isCells = true := by cases o <;> simp_all [Obj.isCells]
    rw [h.2 _ (.inr (.inr rfl)) o ho hcl]
    simpa [ho] using hc
def CapS (S Cb : Nat) (W : World) : Prop := W.heap[Cb]? = some (.cells #[.pointer (some ⟨S, 0, none⟩)] 79 (0, 0))
theorem CapS.grown {S Cb : Nat} {A B : World} (h : CapS S Cb A) (hg : A.grownBy B (some S)) (hne : Cb ≠ S) : CapS S Cb B :=
  (hg.block Cb (Array.getElem?_eq_some_iff.1 h).1 (fun e => hne (by cases e; rfl))).trans h
theorem CapS.cell {S Cb : Nat} {A : World} (h : CapS S Cb A) : A.cell? ⟨Cb, 0, none⟩ = some (.pointer (some ⟨S, 0, none⟩)) := cells_at h 0 _ rfl

theorem ext_empty {s : ByteArray} {j : Nat} (h : ¬ j < s.size) : (s.extract j s.size).toList.isEmpty = true := by
  have : (s.extract j s.size).data.toList.length = 0 := by show (s.extract j s.size).size = 0; rw [ByteArray.size_extract]; omega
  rw [toList_data]; rw [List.length_eq_zero_iff] at this; rw [this]; rfl
theorem ext_full {s : ByteArray} {j : Nat} (h : j < s.size) : (s.extract j s.size).toList.isEmpty = false := by
  have : (s.extract j s.size).data.toList.length ≠ 0 := by show (s.extract j s.size).size ≠ 0; rw [ByteArray.size_extract]; omega
  rw [toList_data]
  cases hl : (s.extract j s.size).data.toList with
  | nil => rw [hl] at this; exact absurd rfl this
  | cons c r => rfl

set_option maxRecDepth 100000 in
set_option maxHeartbeats 4000000 in
theorem scan_stops (s : ByteArray) (S Cb n : Nat) (w : World) (hs : s.size ≤ 281474976710656) (hS : Scn S s 0 w) (hC : CapS S Cb w) (hE : ErrOk w) (hgS : 5 ≠ S) (hCS : Cb ≠ S) :
    SeqOwn Fence.wide n Tryz.prog 36 #[.pointer (some ⟨Cb, 0, none⟩)] Tk.val (AbS S s) (KpS S Cb) (fun xs => xs = lexAll s) (fun pre => pre <+: lexAll s) (lexAll s).length w := by
  intro l J Jx W hW hJ hJx hY h0
  have hdd : ∀ k : Nat, (Fence.wide.depth.isSome = true → 1 ≤ k) := fun k h => by cases h
  have hm : s.size ≤ maxLen := by unfold maxLen; omega
  have hSW : Scn S s 0 W := hS.below hW
  have hCW : CapS S Cb W := (hW.block Cb (Array.getElem?_eq_some_iff.1 hC).1).trans hC
  have hEW : ErrOk W := hE.grown (grown_below hW) hgS
  have c0 := hCW.cell
  have HM := Lib.hid hm
  have HS := Lib.hid hs
  have HSW := Lib.hid hSW
  have HCW := Lib.hid hCW
  have HEW := Lib.hid hEW
  have H0 := Lib.hid h0
  have HJ := Lib.hid hJ
  have HJX := Lib.hid hJx
  have HY := Lib.hid hY
  clear hS hC hE hW hSW hCW hEW h0 hJ hJx hY hm hs
  refine callsIn_of_wp Tryz.func36 rfl trivial ?_ rfl
  simp only [Tryz.ntmps36, List.size_toArray, List.length_cons, List.length_nil, Nat.reduceAdd, Nat.reduceSub, Array.replicate_succ, Array.replicate_zero, List.push_toArray, List.append_toArray, List.nil_append, List.cons_append]
  gi_wp2_with (refine ⟨trivial, hdd _, ?_⟩; gi_at_call 37; refine (callsIn_wide.2 (skip_any s 0 S _ HM.out (Nat.zero_le _) HSW.out)).mono ?_; rintro e W1 ⟨rfl, hs1, hg1⟩)
  gi_loopw [7] (fun _ wr => ∃ (j : Nat) (pre : List Tk) (f : Nat), (skN s j = j ∧ j ≤ s.size) ∧ Scn S s j wr ∧ CapS S Cb wr ∧ ErrOk wr ∧ J pre wr ∧ pre ++ lexF f s j = lexAll s ∧ s.size < f + j) (fun _ wr => s.size - atW S wr)
  case atStart =>
    exact ⟨skN s 0, [], s.size + 1, ⟨skN_idem, (skN_ge (Nat.zero_le _)).2⟩, hs1, HCW.out.grown hg1 hCS, HEW.out.grown hg1 hgS, HJ.out _ _ _ H0.out ⟨hg1, _, HSW.out⟩, lexF_skip _ _ _, by omega⟩
  case round =>
    clear hs1 hg1 c0
    obtain ⟨j, pre, f, hj, hsj, hcj, hej, hJj, hall, hf⟩ := hrel
    have HSJ := Lib.hid hsj
    have HCJ := Lib.hid hcj
    have HEJ := Lib.hid hej
    have HJJ := Lib.hid hJj
    have HA := Lib.hid hall
    have HF := Lib.hid hf
    have HJ1 := Lib.hid hj.1
    have hj2 := hj.2
    have c0 := hcj.cell
    clear hj hsj hcj hej hJj hall hf
    by_cases hlt : j < s.size
    · have HX := Lib.hid (ext_full hlt)
      have HLT := Lib.hid hlt
      obtain ⟨⟨k, t, a, er⟩, hx⟩ : ∃ x, tokAt s j = x := ⟨_, rfl⟩
      have HXE := Lib.hid hx
      have hfs : ∃ f', f = f' + 1 := ⟨f - 1, by have := HF.out; omega⟩
      obtain ⟨f', rfl⟩ := hfs
      have hstep : lexF (f' + 1) s j = if er = 0 then ⟨k, t, a, er⟩ :: lexF f' s (tokN s j) else [⟨k, t, a, er⟩] := by
        conv => lhs; unfold lexF
        rw [HJ1.out, if_pos hlt, hx]
      have hlen : pre.length < (lexAll s).length := by
        rw [← HA.out, hstep]; split <;> simp
      have HLEN := Lib.hid hlen
      have HSTEP := Lib.hid hstep
      have HTOK : Hid (∀ W2, Scn S s j W2 → ErrOk W2 → Calls Tryz.prog 39 #[.pointer (some ⟨S, 0, none⟩)] W2 fun e w' => e = .returned (.tuple #[.agg #[.int .u8 k, .string t, .int .i64 a], .int .i64 er]) ∧ Scn S s (tokN s j) w' ∧ W2.grownBy w' (some S)) := Lib.hid (fun W2 h1 h2 => by
        have h := token_any s j S W2 HS.out HLT.out h1 h2 hgS
        rw [HXE.out] at h; exact h)
      clear hstep hlen hx
      have e1 := HX.out
      have e2 : (!(s.extract j s.size).toList.isEmpty) = true := by rw [e1]; rfl
      have HGT := Lib.hid (fun h : er = 0 => tokN_gt (s := s) (a := j) hlt (by rw [HXE.out]; exact h))
      have HLE := Lib.hid (tokN_le hlt)
      have cases_er : (er = 0) ∨ ((er == 0) = false ∧ (er != 0) = true ∧ er ≠ 0) := by
        by_cases h : er = 0
        · exact .inl h
        · exact .inr ⟨by simpa using h, by simpa using h, h⟩
      gi_wp2_with (first
        | (refine ⟨trivial, hdd _, ?_⟩; gi_at_call 38; refine (callsIn_wide.2 (rest_at s j S _ HM.out hj2 HSJ.out)).mono ?_; rintro e W2 ⟨rfl, hs2, hg2⟩; have c2 := (HCJ.out.grown hg2 hCS).cell; have HS2 := Lib.hid hs2; have HG2 := Lib.hid hg2; clear hs2 hg2)
        | (refine ⟨trivial, hdd _, ?_⟩; gi_at_call 39; refine (callsIn_wide.2 (HTOK.out W2 HS2.out (HEJ.out.grown HG2.out hgS))).mono ?_; rintro e W3 ⟨rfl, hs3, hg3⟩; have HS3 := Lib.hid hs3; have HG3 := Lib.hid (grown_trans HG2.out hg3); clear hs3 hg3 HTOK; have hJ4 := HJ.out _ _ (W3.alloc (.cells #[.int .u8 k, .string t, .int .i64 a] 33)) (HJ.out _ _ W3 HJJ.out ⟨HG3.out, _, HSJ.out⟩) ⟨grown_below ((Below.refl _ _).alloc (Nat.le_refl _) _), _, HS3.out⟩; obtain ⟨fn, tmps, assign, body, hy, hR⟩ := HY.out pre ⟨k, t, a, er⟩ _ hJ4 HLEN.out; simp only [Tk.val, Tk.agg] at hy; have HR := Lib.hid hR; clear hR hJ4))
      refine ⟨hdd _, ?_⟩
      refine HR.out.mono ?_
      clear HR hy c0 c2
      rintro e W5 (⟨rfl, hJ5, hK5⟩ | ⟨rfl, hx5⟩)
      · have h4 : wr.grownBy (W3.alloc (.cells #[.int .u8 k, .string t, .int .i64 a] 33)) (some S) := grown_trans HG3.out (grown_below ((Below.refl _ _).alloc (Nat.le_refl _) _))
        have hs5 : Scn S s (tokN s j) W5 := hK5.scn (HS3.out.below ((Below.refl _ _).alloc (Nat.le_refl _) _))
        have hc5 : CapS S Cb W5 := hK5.2 Cb (.inr (.inl rfl)) _ (HCJ.out.grown h4 hCS) rfl
        have hE5 : ErrOk W5 := hK5.err (HEJ.out.grown h4 hgS)
        have c5 := hc5.cell
        have HS5 := Lib.hid hs5
        have HC5 := Lib.hid hc5
        have HE5 := Lib.hid hE5
        have HJ5 := Lib.hid hJ5
        clear h4 hs5 hc5 hE5 hJ5 hK5
        rcases cases_er with rfl | ⟨g1, g2, g3⟩
        · have HST := Lib.hid (show lexF (f' + 1) s j = ⟨k, t, a, 0⟩ :: lexF f' s (tokN s j) from by rw [HSTEP.out, if_pos rfl])
          have HG0 := Lib.hid (HGT.out rfl)
          gi_wp2_with (refine ⟨trivial, hdd _, ?_⟩; gi_at_call 37; refine (callsIn_wide.2 (skip_any s (tokN s j) S _ HM.out HLE.out.2 HS5.out)).mono ?_; rintro e W6 ⟨rfl, hs6, hg6⟩)
          go_roundw
          case rel =>
            refine ⟨skN s (tokN s j), pre ++ [⟨k, t, a, 0⟩], f', ⟨skN_idem, (skN_ge HLE.out.2).2⟩, hs6, HC5.out.grown hg6 hCS, HE5.out.grown hg6 hgS, HJ.out _ _ _ HJ5.out ⟨hg6, _, HS5.out⟩, ?_, ?_⟩
            · rw [lexF_skip, ← HA.out, HST.out]; simp
            · have h1 := HG0.out
              have h2 := (skN_ge (s := s) (a := tokN s j) HLE.out.2).1
              have h3 := HF.out
              omega
          case measure =>
            have h1 := HG0.out
            have h2 := skN_ge (s := s) (a := tokN s j) HLE.out.2
            have h3 := hs6.at
            have h4 := HSJ.out.at
            rw [h3, h4]; omega
        · have hst := HSTEP.out
          rw [if_neg g3] at hst
          have HST := Lib.hid hst
          clear g3 hst
          gi_wp2
          refine bodyPost_ret (v := .tuple #[]) (by simp [results, Tryz.results36, go_sem]) rfl ?_
          exact ⟨⟨_, rfl⟩, .inl ⟨pre ++ [⟨k, t, a, er⟩], by rw [← HA.out, HST.out], HJ5.out⟩⟩
      · have HP : Hid (pre ++ [⟨k, t, a, er⟩] <+: lexAll s) := Lib.hid (by
          rw [← HA.out, HSTEP.out]
          split
          · exact ⟨lexF f' s (tokN s j), by simp⟩
          · exact List.prefix_refl _)
        have HX5 := Lib.hid hx5
        clear cases_er hx5
        gi_wp2
        refine bodyPost_ret (v := .tuple #[]) (by simp [results, Tryz.results36, go_sem]) rfl ?_
        exact ⟨⟨_, rfl⟩, .inr ⟨_, HP.out, HX5.out⟩⟩
    · have HX := Lib.hid (ext_empty hlt)
      have e1 := HX.out
      have e2 : (!(s.extract j s.size).toList.isEmpty) = false := by rw [e1]; rfl
      have hnil : lexF f s j = [] := by
        cases f with
        | zero => rfl
        | succ f' => unfold lexF; rw [HJ1.out, if_neg hlt]
      have HNIL := Lib.hid hnil
      clear hnil
      gi_wp2_with (refine ⟨trivial, hdd _, ?_⟩; gi_at_call 38; refine (callsIn_wide.2 (rest_at s j S _ HM.out hj2 HSJ.out)).mono ?_; rintro e W2 ⟨rfl, hs2, hg2⟩)
      go_end0
      exact ⟨⟨_, rfl⟩, .inl ⟨pre, by rw [← HA.out, HNIL.out]; simp, HJ.out _ _ _ HJJ.out ⟨hg2, _, HSJ.out⟩⟩⟩
end Go.Proofs.YtgepfenjbjlgpaaGreatDoor
