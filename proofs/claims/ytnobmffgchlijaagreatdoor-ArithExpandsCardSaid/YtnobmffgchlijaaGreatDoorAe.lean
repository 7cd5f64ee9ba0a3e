/- Package arith: the table of operations, a map keyed by structs that is built in an open order. -/
import Derived.Test.YtnobmffgchlijaaGreatDoorAd
import Derived.Test.YtnobmffgchlijaaGreatDoorVa
import Derived.Test.YtnobmffgchlijaaGreatDoorRg
import Derived.DeepKeys5
import Derived.Maps.OwnOps
namespace Go.Proofs.YtnobmffgchlijaaGreatDoor
open Go.RowKit Go.Maps

/-- An operator with its number of operands, as a map's key. -/
def keyS (s : ByteArray) (n : Int) : Lit := .string (keyBytes [.string s.data.toList, .int .i64 n])
theorem few_types : Tryz.prog.types.size + 2 ≤ 10000 ∧ 59 < Tryz.prog.types.size ∧ 0 < Tryz.prog.types.size :=
  ⟨of_decide_eq_true (by kernel_rfl), of_decide_eq_true (by kernel_rfl), of_decide_eq_true (by kernel_rfl)⟩
theorem sign_keyed : Keyed Tryz.prog 59 := Keyed.of_law (deep_law_gate (by kernel_rfl) few_types.1 few_types.2.1 (by kernel_rfl) (by kernel_rfl))
def signOk (k : Option TypeDesc) : Bool := match k with
  | some (.struct fs) => (fs.toList.map fun f => (f.type, f.offset)) == [(9, 0), (3, 1)] && fs.all (fun f => f.name != "_")
  | _ => false
theorem sign_ok : signOk (Tryz.prog.underlying 59) = true := by kernel_rfl
theorem sign_fields : ∃ fs, Tryz.prog.underlying 59 = some (.struct fs) ∧ fs.all (fun f => f.name != "_") = true ∧ ∃ f g, fs.toList = [f, g] ∧ f.type = 9 ∧ f.offset = 0 ∧ g.type = 3 ∧ g.offset = 1 := by
  have h := sign_ok
  unfold signOk at h
  split at h
  · rename_i fs hfs
    rw [Bool.and_eq_true] at h
    refine ⟨fs, hfs, h.2, ?_⟩
    have h1 := beq_iff_eq.1 h.1
    have hlen : fs.toList.length = 2 := by have := congrArg List.length h1; simpa using this
    match hl : fs.toList, hlen with
    | [f, g], _ =>
      rw [hl] at h1
      simp at h1
      exact ⟨f, g, rfl, h1.1.1, h1.1.2, h1.2.1, h1.2.2⟩
  · cases h
set_option maxRecDepth 100000 in
theorem keyS_of (s : ByteArray) (n : Int) (hs : s.size ≤ maxLen) (hn : I64 n) : keyOf Tryz.prog 59 (.agg #[.string s, .int .i64 n]) = some (keyS s n) := by
  obtain ⟨fs, hu, hall, f, g, hfg, hf, hf0, hg, hg1⟩ := sign_fields
  have hc : Tryz.prog.cellsOf 59 = 2 := by kernel_rfl
  have hk : Tryz.prog.keyType 59 = true := by kernel_rfl
  have c1 : Tryz.prog.cellsOf 9 = 1 := by kernel_rfl
  have c2 : Tryz.prog.cellsOf 3 = 1 := by kernel_rfl
  have us : Tryz.prog.underlying 9 = some .string := by kernel_rfl
  have ui : Tryz.prog.underlying 3 = some (.int .i64) := by kernel_rfl
  obtain ⟨m, hm⟩ : ∃ m, Tryz.prog.types.size = m + 1 := ⟨Tryz.prog.types.size - 1, (Nat.sub_add_cancel few_types.2.2).symm⟩
  have hform : (Value.agg #[.string s, .int .i64 n]).formed Tryz.prog 59 = true := by simp [Value.formed, hu, hc]
  unfold keyOf
  rw [hu]
  simp only [hk, hform, Bool.and_self, if_true, Value.cells, hm]
  rw [Program.keyLits.eq_def]
  simp only [hu, hc, hall, hfg, List.length_cons, List.length_nil, true_and, if_true, Nat.reduceAdd, List.mapM_cons, List.mapM_nil, hf, hg, hf0, hg1, c1, c2]
  have k1 : Tryz.prog.keyLits (m + 1) 9 [.string s] = some [.string s.data.toList] := by rw [Program.keyLits.eq_def]; simp [us, hs]
  have k2 : Tryz.prog.keyLits (m + 1) 3 [.int .i64 n] = some [.int .i64 n] := by rw [Program.keyLits.eq_def]; simp [ui]; exact hn
  simp [k1, k2, keyS]
theorem keyS_inj {s t : ByteArray} {n m : Int} (hs : s.size ≤ maxLen) (hn : I64 n) (ht : t.size ≤ maxLen) (hm : I64 m) (h : keyS s n = keyS t m) : s = t ∧ n = m := by
  have := sign_keyed.inj (keyS_of s n hs hn) (h ▸ keyS_of t m ht hm)
  simpa using this
/-- Where each operation is laid into the table, its operator, its number of operands. -/
abbrev OpKey : Type := Nat × List UInt8 × Nat × Ar
def opKeys : List OpKey := [(2, [45], 1, .neg), (4, [43], 2, .add), (6, [45], 2, .sub), (8, [42], 2, .mul), (10, [47], 2, .quo), (12, [92], 2, .rem)]
def kL (k : OpKey) : Lit := keyS ⟨k.2.1.toArray⟩ k.2.2.1
theorem opKeys_ix : ∀ k ∈ opKeys, ∀ k' ∈ opKeys, k.1 = k'.1 → k = k' := by decide
theorem opKeys_key : ∀ k ∈ opKeys, ∀ k' ∈ opKeys, k.2.1 = k'.2.1 → k.2.2.1 = k'.2.2.1 → k = k' := by decide
theorem opKeys_small : ∀ k ∈ opKeys, k.2.1.length ≤ 1 ∧ k.2.2.1 ≤ 2 ∧ k.1 < 15 ∧ k.1 ≠ 0 := by decide
theorem i64_nat {n : Nat} (h : n ≤ 2) : I64 (n : Int) := by
  have h' : -9223372036854775808 ≤ (n : Int) ∧ (n : Int) ≤ 9223372036854775807 := by omega
  unfold I64 Lit.wf
  simp only [Bool.and_eq_true, decide_eq_true_eq]
  exact h'
theorem kL_of {k : OpKey} (hk : k ∈ opKeys) : keyOf Tryz.prog 59 (.agg #[.string ⟨k.2.1.toArray⟩, .int .i64 (k.2.2.1 : Int)]) = some (kL k) :=
  keyS_of _ _ (by have := (opKeys_small k hk).1; show k.2.1.toArray.size ≤ maxLen; unfold maxLen; simp; omega) (i64_nat (opKeys_small k hk).2.1)
theorem kL_inj {k k' : OpKey} (hk : k ∈ opKeys) (hk' : k' ∈ opKeys) (h : kL k = kL k') : k = k' := by
  have := sign_keyed.inj (kL_of hk) (h ▸ kL_of hk')
  simp at this
  exact opKeys_key k hk k' hk' this.1 (by omega)

def cntL (l : Array Bool) : Nat := (opKeys.map fun k => if l.getD k.1 false = true then 1 else 0).sum
theorem cntL_le (l : Array Bool) : cntL l ≤ 6 := by
  have h : ∀ b : Bool, (if b = true then 1 else 0) ≤ 1 := by intro b; split <;> omega
  simp only [cntL, opKeys, List.map_cons, List.map_nil, List.sum_cons, List.sum_nil]
  have h1 := h (l.getD 2 false)
  have h2 := h (l.getD 4 false)
  have h3 := h (l.getD 6 false)
  have h4 := h (l.getD 8 false)
  have h5 := h (l.getD 10 false)
  have h6 := h (l.getD 12 false)
  omega
theorem getD_put {l : Array Bool} (i j : Nat) (hi : i < l.size) : (l.setIfInBounds i true).getD j false = (decide (j = i) || l.getD j false) := by
  by_cases h : j = i
  · subst h; simp [Array.getD_eq_getD_getElem?, hi]
  · simp [Array.getD_eq_getD_getElem?, Array.getElem?_setIfInBounds_ne (fun e => h e.symm), h]
theorem cntL_put {l : Array Bool} {k : OpKey} (hk : k ∈ opKeys) (hs : l.size = 15) (hl : l.getD k.1 false = false) : cntL (l.setIfInBounds k.1 true) = cntL l + 1 := by
  have e := fun j => getD_put (l := l) k.1 j (by have := (opKeys_small k hk).2.2.1; omega)
  simp only [cntL, opKeys, List.map_cons, List.map_nil, List.sum_cons, List.sum_nil, e]
  simp only [opKeys, List.mem_cons, List.not_mem_nil, or_false] at hk
  rcases hk with rfl | rfl | rfl | rfl | rfl | rfl <;> simp at hl <;> simp [hl] <;> omega

/-- What the table holds of the operations that have been laid in. -/
def MapInv (B : Nat) (l : Array Bool) (w : World) : Prop :=
  (l.getD 0 false = false → w.heap.size = B ∧ ∀ k ∈ opKeys, l.getD k.1 false = false) ∧
  (l.getD 0 false = true → ∃ D : DataW Unit, w.ownsMap Tryz.prog 59 fnElem B (cntL l) D ∧ IsMap D ∧
    (∀ kl, Maps.has D kl = true ↔ ∃ k ∈ opKeys, l.getD k.1 false = true ∧ kl = kL k) ∧ ∀ k ∈ opKeys, l.getD k.1 false = true → ∀ z, D.atKey (kL k) z = .lit (.int .i64 (fnAr k.2.2.2 : Int)))

theorem MapInv.ins {B : Nat} {l : Array Bool} {w : World} (h : MapInv B l w) (hs : l.size = 15) {k : OpKey} (hk : k ∈ opKeys) (h0 : l.getD 0 false = true) (hn : l.getD k.1 false = false) :
    ∃ w', (Instr.mapUpdate 56 (.map (some B)) (.agg #[.string ⟨k.2.1.toArray⟩, .int .i64 (k.2.2.1 : Int)]) (.func (.func (fnAr k.2.2.2)) #[] #[])).run Tryz.prog w = .ok () w' ∧ MapInv B (l.setIfInBounds k.1 true) w' ∧ w.grownBy w' (some B) := by
  obtain ⟨D, hown, hm, hh, ha⟩ := h.2 h0
  have hc := cntL_le l
  have hv : fnElem (H := Unit) (.func (.func (fnAr k.2.2.2)) #[] #[]) = some (.lit (.int .i64 (fnAr k.2.2.2 : Int)), []) := rfl
  obtain ⟨w', hrun, ho, hg⟩ := hown.update sign_keyed Tryz.underlying56 (by unfold maxLen; omega) (kL_of hk) hv
  have hi := (opKeys_small k hk).2.2.1
  have e := fun j => getD_put (l := l) k.1 j (by omega)
  have hK := sign_keyed.key (kL_of hk)
  refine ⟨w', hrun, ⟨fun h1 => ?_, fun _ => ⟨_, by rw [cntL_put hk hs hn]; exact ho, hm.put _ _, fun kl => ?_, fun k' hk' hl' z => ?_⟩⟩, hg⟩
  · rw [e, h0] at h1; simp at h1
  · by_cases hkl : kl = kL k
    · subst hkl
      exact ⟨fun _ => ⟨k, hk, by rw [e]; simp, rfl⟩, fun _ => Maps.has_put_same hm hK _⟩
    · rw [Maps.has_put_other hkl, hh]
      constructor
      · rintro ⟨k', h1, h2, h3⟩; exact ⟨k', h1, by rw [e, h2]; simp, h3⟩
      · rintro ⟨k', h1, h2, h3⟩
        rw [e] at h2
        refine ⟨k', h1, ?_, h3⟩
        rcases Bool.or_eq_true _ _ ▸ h2 with h4 | h4
        · exact absurd (h3.trans (by rw [opKeys_ix k' h1 k hk (by simpa using h4)])) hkl
        · exact h4
  · by_cases hkk : k' = k
    · subst hkk; exact Maps.atKey_put_same hm hK _ z
    · rw [Maps.atKey_put_other (fun e' => hkk (kL_inj hk' hk e'))]
      rw [e] at hl'
      refine ha k' hk' ?_ z
      rcases Bool.or_eq_true _ _ ▸ hl' with h4 | h4
      · exact absurd (opKeys_ix k' hk' k hk (by simpa using h4)) hkk
      · exact h4

/-- The table: for each operator and number of operands its function, and none else. -/
def OpsMap (w : World) (B : Nat) : Prop := ∃ D : DataW Unit, w.ownsMap Tryz.prog 59 fnElem B 6 D ∧ IsMap D ∧
    (∀ kl, Maps.has D kl = true ↔ ∃ k ∈ opKeys, kl = kL k) ∧ ∀ k ∈ opKeys, ∀ z, D.atKey (kL k) z = .lit (.int .i64 (fnAr k.2.2.2 : Int))

def opVals (B : Nat) : List Value := [.map (some B), .agg #[.string ⟨#[45]⟩, .int .i64 1], undef, .agg #[.string ⟨#[43]⟩, .int .i64 2], undef, .agg #[.string ⟨#[45]⟩, .int .i64 2], undef,
  .agg #[.string ⟨#[42]⟩, .int .i64 2], undef, .agg #[.string ⟨#[47]⟩, .int .i64 2], undef, .agg #[.string ⟨#[92]⟩, .int .i64 2], undef, .map (some B), .map (some B)]
def FO (B : Nat) : Facts := fun i v _ => v = (opVals B).getD i undef

theorem all_slots (a : Array Value) (n : Nat) (h : a.size = n) : a = ((List.range n).map (fun i => a.getD i undef)).toArray := by
  apply Array.ext
  · simp [h]
  · intro i h1 h2
    simp [Array.getD_eq_getD_getElem?, h1]
theorem regInv_zero {ops : Array Oper} {Φ : Facts} {a0 : Act} {w0 : World} : RegInv ops Φ a0 w0 (Array.replicate ops.size false) a0 w0 := by
  refine ⟨by simp, Below.refl _ _, rfl, rfl, fun _ _ => rfl, ?_⟩
  intro i o d ho hl _
  have hi := (Array.getElem?_eq_some_iff.1 ho).1
  simp [Array.getD_eq_getD_getElem?, hi] at hl
theorem regInv_put {ops : Array Oper} {B : Nat} {a0 : Act} {w0 : World} (hok : regionOk ops a0.tmps.size = true) {l : Array Bool} {a : Act} (hJ : RegInv ops (FO B) a0 w0 l a w0) {i : Nat} {o : Oper} (ho : ops[i]? = some o) {v : Value} (hv : ∀ d, o.dst = some d → v = (opVals B).getD i undef) :
    RegInv ops (FO B) a0 w0 (l.setIfInBounds i true) (a.put o.dst v) w0 := hJ.put (fun _ _ _ _ h _ => h) hok ho (Below.refl _ _) hv

theorem wp_value {P : Program} {o : Oper} {a : Act} {w w' : World} {v : Value} {R : Act → World → Prop} {Q : Exit → Act → World → Prop} (hr : (execOp a.eval o).run P w = .ok (.value v) w') (h : R (a.put o.dst v) w') : o.wp P a w R Q := by
  unfold Oper.wp; rw [hr]; exact h
theorem wp_skip {P : Program} {o : Oper} {a : Act} {w w' : World} {R : Act → World → Prop} {Q : Exit → Act → World → Prop} (hr : (execOp a.eval o).run P w = .ok .skip w') (h : R (a.put o.dst undef) w') : o.wp P a w R Q := by
  unfold Oper.wp; rw [hr]; exact h
theorem Act.eval_tmp (a : Act) (t : Tmp) : a.eval (.tmp t) = a.tmps.getD t undef := by
  unfold Act.eval; simp [Array.getD_eq_getD_getElem?]
theorem run_ins {P : Program} {w w' : World} {i : Sem Unit} (h : i.run P w = .ok () w') : (do i; pure Next.skip : Sem Next).run P w = .ok .skip w' := by
  simp [h, Result.andThen]
theorem MapInv.other {B : Nat} {l : Array Bool} {w : World} (h : MapInv B l w) {i : Nat} (h0 : i ≠ 0) (hi : ∀ k ∈ opKeys, k.1 ≠ i) (hs : i < l.size) : MapInv B (l.setIfInBounds i true) w := by
  have e : ∀ j, j ≠ i → (l.setIfInBounds i true).getD j false = l.getD j false := fun j hj => by rw [getD_put i j hs]; simp [hj]
  have ec : cntL (l.setIfInBounds i true) = cntL l := by
    simp only [cntL, opKeys, List.map_cons, List.map_nil, List.sum_cons, List.sum_nil]
    rw [e 2 (hi (2, [45], 1, .neg) (by simp [opKeys])), e 4 (hi (4, [43], 2, .add) (by simp [opKeys])), e 6 (hi (6, [45], 2, .sub) (by simp [opKeys])), e 8 (hi (8, [42], 2, .mul) (by simp [opKeys])), e 10 (hi (10, [47], 2, .quo) (by simp [opKeys])), e 12 (hi (12, [92], 2, .rem) (by simp [opKeys]))]
  refine ⟨fun h1 => ?_, fun h1 => ?_⟩
  · rw [e 0 (Ne.symm h0)] at h1
    exact ⟨(h.1 h1).1, fun k hk => by rw [e k.1 (hi k hk)]; exact (h.1 h1).2 k hk⟩
  · rw [e 0 (Ne.symm h0)] at h1
    obtain ⟨D, ho, hm, hh, ha⟩ := h.2 h1
    refine ⟨D, by rw [ec]; exact ho, hm, fun kl => ?_, fun k hk hl => ha k hk (by rw [e k.1 (hi k hk)] at hl; exact hl)⟩
    rw [hh]
    exact ⟨fun ⟨k, h1, h2, h3⟩ => ⟨k, h1, by rw [e k.1 (hi k h1)]; exact h2, h3⟩, fun ⟨k, h1, h2, h3⟩ => ⟨k, h1, by rw [e k.1 (hi k h1)] at h2; exact h2, h3⟩⟩

set_option maxRecDepth 100000 in
set_option maxHeartbeats 4000000 in
theorem operations_any (w : World) : Calls Tryz.prog 32 #[] w fun e w' => e = .returned (.map (some w.heap.size)) ∧ OpsMap w' w.heap.size ∧ Below w.heap.size w w' := by
  have hmm := @run_makeMap Tryz.prog
  go_enter Tryz.func32, Tryz.ntmps32
  go_wp2_with fail
  refine wp_region_any (by kernel_rfl) (wpAny_inv (n := 9) (by kernel_rfl) (fun l a W => RegInv _ (FO w.heap.size) _ w l a w ∧ Below w.heap.size w W ∧ MapInv w.heap.size l W) (fun l a W h => h.1.size) ?step ?fin _ _ _ _ ⟨regInv_zero, (Below.refl _ w).drew, fun _ => ⟨rfl, fun k hk => ?start⟩, fun h => ?start2⟩ ?fuel)
  case start => simp only [opKeys, List.mem_cons, List.not_mem_nil, or_false] at hk; rcases hk with rfl | rfl | rfl | rfl | rfl | rfl <;> rfl
  case start2 => cases h
  case fuel => exact Nat.le_trans (List.length_filter_le _ _) (by simp)
  case step =>
    rintro l a W i o ⟨hJ, hB, hM⟩ hl ho hie
    have hs : l.size = 15 := hJ.size
    have hi : i < 15 := (Array.getElem?_eq_some_iff.1 ho).1
    match i, hi with
    | 0, _ =>
      cases (show some _ = some o from ho)
      refine wpOp_of rfl rfl ?_
      obtain ⟨hsz, hnone⟩ := hM.1 (by simpa [Array.getD_eq_getD_getElem?, hs] using hl)
      refine wp_value (v := .map (some W.heap.size)) (w' := W.alloc (.map #[] 0)) (by go_simp) ?_
      refine ⟨regInv_put (by kernel_rfl) hJ rfl fun _ _ => by rw [hsz]; rfl, hB.alloc (by omega) _, fun h => ?_, fun _ => ⟨.map [], ?_, Maps.isMap_empty, fun kl => ?_, fun k hk h => ?_⟩⟩
      · rw [getD_put 0 0 (by rw [hs]; decide)] at h; simp at h
      · have h0 := World.ownsMap_made (H := Unit) W Tryz.prog 59 fnElem
        rw [hsz] at h0
        exact h0.mono (Nat.zero_le _)
      · constructor
        · intro h; cases h
        · rintro ⟨k, hk, h, _⟩
          rw [getD_put 0 k.1 (by rw [hs]; decide), hnone k hk] at h
          simp at h
          exact absurd h (opKeys_small k hk).2.2.2
      · rw [getD_put 0 k.1 (by rw [hs]; decide), hnone k hk] at h
        simp at h
        exact absurd h (opKeys_small k hk).2.2.2
    | 1, _ =>
      cases (show some _ = some o from ho)
      refine wpOp_of rfl rfl ?_
      refine wp_value (v := (opVals w.heap.size).getD 1 undef) (w' := W) (by go_simp; rfl) ?_
      exact ⟨regInv_put (by kernel_rfl) hJ rfl fun _ _ => rfl, hB, hM.other (by decide) (by decide) (by rw [hs]; decide)⟩
    | 2, _ =>
      cases (show some _ = some o from ho)
      refine wpOp_of rfl rfl ?_
      have l0 := hie ⟨0, .data⟩ (by simp) rfl
      have l1 := hie ⟨1, .data⟩ (by simp) rfl
      have s1 : a.tmps.getD 1 undef = .map (some w.heap.size) := hJ.facts 0 _ 1 rfl l0 rfl
      have s2 : a.tmps.getD 2 undef = (opVals w.heap.size).getD 1 undef := hJ.facts 1 _ 2 rfl l1 rfl
      obtain ⟨w', hrun, hM', hg⟩ := hM.ins hs (k := opKeys[0]) (by simp [opKeys]) l0 (by rw [Array.getD_eq_getD_getElem?] at hl ⊢; simpa [hs, opKeys] using hl)
      refine wp_skip (w' := w') (by refine run_ins ?_; rw [Act.eval_tmp, Act.eval_tmp, s1, s2]; exact hrun) ?_
      exact ⟨regInv_put (by kernel_rfl) hJ rfl (fun _ h => by cases h), hB.grown hg hB.size (fun j e => by cases e; exact Nat.le_refl _), hM'⟩
    | 3, _ =>
      cases (show some _ = some o from ho)
      refine wpOp_of rfl rfl ?_
      refine wp_value (v := (opVals w.heap.size).getD 3 undef) (w' := W) (by go_simp; rfl) ?_
      exact ⟨regInv_put (by kernel_rfl) hJ rfl fun _ _ => rfl, hB, hM.other (by decide) (by decide) (by rw [hs]; decide)⟩
    | 4, _ =>
      cases (show some _ = some o from ho)
      refine wpOp_of rfl rfl ?_
      have l0 := hie ⟨0, .data⟩ (by simp) rfl
      have l1 := hie ⟨3, .data⟩ (by simp) rfl
      have s1 : a.tmps.getD 1 undef = .map (some w.heap.size) := hJ.facts 0 _ 1 rfl l0 rfl
      have s2 : a.tmps.getD 3 undef = (opVals w.heap.size).getD 3 undef := hJ.facts 3 _ 3 rfl l1 rfl
      obtain ⟨w', hrun, hM', hg⟩ := hM.ins hs (k := opKeys[1]) (by simp [opKeys]) l0 (by rw [Array.getD_eq_getD_getElem?] at hl ⊢; simpa [hs, opKeys] using hl)
      refine wp_skip (w' := w') (by refine run_ins ?_; rw [Act.eval_tmp, Act.eval_tmp, s1, s2]; exact hrun) ?_
      exact ⟨regInv_put (by kernel_rfl) hJ rfl (fun _ h => by cases h), hB.grown hg hB.size (fun j e => by cases e; exact Nat.le_refl _), hM'⟩
    | 5, _ =>
      cases (show some _ = some o from ho)
      refine wpOp_of rfl rfl ?_
      refine wp_value (v := (opVals w.heap.size).getD 5 undef) (w' := W) (by go_simp; rfl) ?_
      exact ⟨regInv_put (by kernel_rfl) hJ rfl fun _ _ => rfl, hB, hM.other (by decide) (by decide) (by rw [hs]; decide)⟩
    | 6, _ =>
      cases (show some _ = some o from ho)
      refine wpOp_of rfl rfl ?_
      have l0 := hie ⟨0, .data⟩ (by simp) rfl
      have l1 := hie ⟨5, .data⟩ (by simp) rfl
      have s1 : a.tmps.getD 1 undef = .map (some w.heap.size) := hJ.facts 0 _ 1 rfl l0 rfl
      have s2 : a.tmps.getD 4 undef = (opVals w.heap.size).getD 5 undef := hJ.facts 5 _ 4 rfl l1 rfl
      obtain ⟨w', hrun, hM', hg⟩ := hM.ins hs (k := opKeys[2]) (by simp [opKeys]) l0 (by rw [Array.getD_eq_getD_getElem?] at hl ⊢; simpa [hs, opKeys] using hl)
      refine wp_skip (w' := w') (by refine run_ins ?_; rw [Act.eval_tmp, Act.eval_tmp, s1, s2]; exact hrun) ?_
      exact ⟨regInv_put (by kernel_rfl) hJ rfl (fun _ h => by cases h), hB.grown hg hB.size (fun j e => by cases e; exact Nat.le_refl _), hM'⟩
    | 7, _ =>
      cases (show some _ = some o from ho)
      refine wpOp_of rfl rfl ?_
      refine wp_value (v := (opVals w.heap.size).getD 7 undef) (w' := W) (by go_simp; rfl) ?_
      exact ⟨regInv_put (by kernel_rfl) hJ rfl fun _ _ => rfl, hB, hM.other (by decide) (by decide) (by rw [hs]; decide)⟩
    | 8, _ =>
      cases (show some _ = some o from ho)
      refine wpOp_of rfl rfl ?_
      have l0 := hie ⟨0, .data⟩ (by simp) rfl
      have l1 := hie ⟨7, .data⟩ (by simp) rfl
      have s1 : a.tmps.getD 1 undef = .map (some w.heap.size) := hJ.facts 0 _ 1 rfl l0 rfl
      have s2 : a.tmps.getD 5 undef = (opVals w.heap.size).getD 7 undef := hJ.facts 7 _ 5 rfl l1 rfl
      obtain ⟨w', hrun, hM', hg⟩ := hM.ins hs (k := opKeys[3]) (by simp [opKeys]) l0 (by rw [Array.getD_eq_getD_getElem?] at hl ⊢; simpa [hs, opKeys] using hl)
      refine wp_skip (w' := w') (by refine run_ins ?_; rw [Act.eval_tmp, Act.eval_tmp, s1, s2]; exact hrun) ?_
      exact ⟨regInv_put (by kernel_rfl) hJ rfl (fun _ h => by cases h), hB.grown hg hB.size (fun j e => by cases e; exact Nat.le_refl _), hM'⟩
    | 9, _ =>
      cases (show some _ = some o from ho)
      refine wpOp_of rfl rfl ?_
      refine wp_value (v := (opVals w.heap.size).getD 9 undef) (w' := W) (by go_simp; rfl) ?_
      exact ⟨regInv_put (by kernel_rfl) hJ rfl fun _ _ => rfl, hB, hM.other (by decide) (by decide) (by rw [hs]; decide)⟩
    | 10, _ =>
      cases (show some _ = some o from ho)
      refine wpOp_of rfl rfl ?_
      have l0 := hie ⟨0, .data⟩ (by simp) rfl
      have l1 := hie ⟨9, .data⟩ (by simp) rfl
      have s1 : a.tmps.getD 1 undef = .map (some w.heap.size) := hJ.facts 0 _ 1 rfl l0 rfl
      have s2 : a.tmps.getD 6 undef = (opVals w.heap.size).getD 9 undef := hJ.facts 9 _ 6 rfl l1 rfl
      obtain ⟨w', hrun, hM', hg⟩ := hM.ins hs (k := opKeys[4]) (by simp [opKeys]) l0 (by rw [Array.getD_eq_getD_getElem?] at hl ⊢; simpa [hs, opKeys] using hl)
      refine wp_skip (w' := w') (by refine run_ins ?_; rw [Act.eval_tmp, Act.eval_tmp, s1, s2]; exact hrun) ?_
      exact ⟨regInv_put (by kernel_rfl) hJ rfl (fun _ h => by cases h), hB.grown hg hB.size (fun j e => by cases e; exact Nat.le_refl _), hM'⟩
    | 11, _ =>
      cases (show some _ = some o from ho)
      refine wpOp_of rfl rfl ?_
      refine wp_value (v := (opVals w.heap.size).getD 11 undef) (w' := W) (by go_simp; rfl) ?_
      exact ⟨regInv_put (by kernel_rfl) hJ rfl fun _ _ => rfl, hB, hM.other (by decide) (by decide) (by rw [hs]; decide)⟩
    | 12, _ =>
      cases (show some _ = some o from ho)
      refine wpOp_of rfl rfl ?_
      have l0 := hie ⟨0, .data⟩ (by simp) rfl
      have l1 := hie ⟨11, .data⟩ (by simp) rfl
      have s1 : a.tmps.getD 1 undef = .map (some w.heap.size) := hJ.facts 0 _ 1 rfl l0 rfl
      have s2 : a.tmps.getD 7 undef = (opVals w.heap.size).getD 11 undef := hJ.facts 11 _ 7 rfl l1 rfl
      obtain ⟨w', hrun, hM', hg⟩ := hM.ins hs (k := opKeys[5]) (by simp [opKeys]) l0 (by rw [Array.getD_eq_getD_getElem?] at hl ⊢; simpa [hs, opKeys] using hl)
      refine wp_skip (w' := w') (by refine run_ins ?_; rw [Act.eval_tmp, Act.eval_tmp, s1, s2]; exact hrun) ?_
      exact ⟨regInv_put (by kernel_rfl) hJ rfl (fun _ h => by cases h), hB.grown hg hB.size (fun j e => by cases e; exact Nat.le_refl _), hM'⟩
    | 13, _ =>
      cases (show some _ = some o from ho)
      refine wpOp_of rfl rfl ?_
      have s1 : a.tmps.getD 1 undef = .map (some w.heap.size) := hJ.facts 0 _ 1 rfl (hie ⟨0, .data⟩ (by simp) rfl) rfl
      refine wp_value (v := .map (some w.heap.size)) (w' := W) (by rw [← s1, ← Act.eval_tmp]; rfl) ?_
      exact ⟨regInv_put (by kernel_rfl) hJ rfl fun _ _ => rfl, hB, hM.other (by decide) (by decide) (by rw [hs]; decide)⟩
    | 14, _ =>
      cases (show some _ = some o from ho)
      refine wpOp_of rfl rfl ?_
      have s1 : a.tmps.getD 8 undef = .map (some w.heap.size) := hJ.facts 13 _ 8 rfl (hie ⟨13, .data⟩ (by simp) rfl) rfl
      refine wp_value (v := .map (some w.heap.size)) (w' := W) (by rw [← s1, ← Act.eval_tmp]; rfl) ?_
      exact ⟨regInv_put (by kernel_rfl) hJ rfl fun _ _ => rfl, hB, hM.other (by decide) (by decide) (by rw [hs]; decide)⟩
  case fin =>
    rintro a W ⟨hJ, hB, hM⟩
    obtain ⟨D, ho, hm, hh, ha⟩ := hM.2 (by rfl)
    have hl : ∀ k ∈ opKeys, (Array.replicate 15 true).getD k.1 false = true := by
      intro k hk
      simp only [opKeys, List.mem_cons, List.not_mem_nil, or_false] at hk; rcases hk with rfl | rfl | rfl | rfl | rfl | rfl <;> rfl
    have hO : OpsMap W w.heap.size := ⟨D, ho.mono (cntL_le _), hm, fun kl => (hh kl).trans ⟨fun ⟨k, h1, _, h3⟩ => ⟨k, h1, h3⟩, fun ⟨k, h1, h3⟩ => ⟨k, h1, hl k h1, h3⟩⟩, fun k hk => ha k hk (hl k hk)⟩
    have s0 : a.tmps.getD 0 undef = .map (some w.heap.size) := hJ.at_end 14 0 (by kernel_rfl)
    have hd := hJ.defers
    have ht := hJ.tmps
    obtain ⟨tm, df⟩ := a
    simp only at s0 hd ht
    subst hd
    clear hJ hM ho hh ha hl hm
    have h9 := all_slots tm 9 ht
    simp only [List.range_eq_range', List.range'_succ, List.range'_zero, List.map_cons, List.map_nil, s0] at h9
    rw [h9]
    go_wp2_with fail
    go_ret
    exact ⟨rfl, hO, hB⟩
end Go.Proofs.YtnobmffgchlijaaGreatDoor
