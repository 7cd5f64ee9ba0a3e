/- Texts that belong together: The laws of match: their examples. The laws of match: outer variables. Package term: Vars. The laws of match: their helper small. The frame that the cards of package arith share: what a call that only adds to memory owes. An argument of type api.Term, opened: what the row reads is a term that memory holds. An argument of type api.Binding, opened and shut. -/
import Derived.Test.YtlmdhlckgbgfhaaGreatDoorYm
import Derived.Test.YtlmdhlckgbgfhaaGreatDoorYk
import Derived.Test.YtlmdhlckgbgfhaaGreatDoorYh
import Derived.Test.YtlmdhlckgbgfhaaGreatDoorYl
import Derived.Test.YtlmdhlckgbgfhaaGreatDoorYc
import Derived.Test.YtlmdhlckgbgfhaaGreatDoorIter
import Derived.Test.YtlmdhlckgbgfhaaGreatDoorYj
import Derived.Test.YtlmdhlckgbgfhaaGreatDoorCards
import Derived.Test.YtlmdhlckgbgfhaaGreatDoorTie
import Derived.Test.YtlmdhlckgbgfhaaGreatDoorProg
import Derived.Test.YtlmdhlckgbgfhaaGreatDoorYa
import Derived.Test.YtlmdhlckgbgfhaaGreatDoorChecked
import Derived.Laws.AppendOwnNone
import Derived.Maps.OwnIn
import Derived.Deep.Onto
import Derived.Maps.OwnOps
import Derived.Maps.OwnSet
import Derived.IntWalk
import Derived.Below
import Derived.Lib.Hide
import Derived.ProofKit
import Derived.OpenShut
import Derived.Deep.DeepHandedRow
import Derived.Lib.LaidTab
import Derived.MakeChecks
import Derived.Lay
import Derived.Lib.SmallJoins
import Derived.Deep.Slices
import Derived.WideKeyArgs
import Derived.WideShapes
set_option maxRecDepth 100000
set_option maxHeartbeats 400000000
namespace Go.Proofs.YtlmdhlckgbgfhaaGreatDoor
open Go.RowKit Go.Shelf
attribute [local go_sem] Oper.semAt_some

theorem setBind (W : World) (b : Nat) (c0 c1 c2 c3 c4 d0 d1 d2 d3 d4 : Value) (t : TypeId) (h : W.heap[b]? = some (.cells #[c0, c1, c2, c3, c4] t (0, 0))) : ∃ W', ((((W.setCell ⟨b, 0, none⟩ d0).setCell ⟨b, 1, none⟩ d1).setCell ⟨b, 2, none⟩ d2).setCell ⟨b, 3, none⟩ d3).setCell ⟨b, 4, none⟩ d4 = W' ∧ W'.heap[b]? = some (.cells #[d0, d1, d2, d3, d4] t (0, 0)) ∧ Below b W W' ∧ W'.heap.size = W.heap.size ∧ ∀ k, k ≠ b → W'.heap[k]? = W.heap[k]? := by
 refine ⟨_, rfl, ?_, (((((Below.refl b W).setCell (p := ⟨b, 0, none⟩) (Nat.le_refl _) _).setCell (p := ⟨b, 1, none⟩) (Nat.le_refl _) _).setCell (p := ⟨b, 2, none⟩) (Nat.le_refl _) _).setCell (p := ⟨b, 3, none⟩) (Nat.le_refl _) _).setCell (p := ⟨b, 4, none⟩) (Nat.le_refl _) _, by simp [World.setCell], fun k hk => ?_⟩
 · simp [World.setCell, Array.getElem?_modify, h]
 · simp [World.setCell, Array.getElem?_modify, Ne.symm hk]
theorem pair07_any (f : Nat) (nm s : ByteArray) (t : Tm) (hr : readS f s = some t) (W : World) :
   Calls Tryz.prog 19 #[.string nm, .string s] W fun e w' => ∃ a c, e = .returned (.agg #[.string nm, .int .u8 t.kind, .int .i64 t.num, .string t.name, .slice a t.args.length c]) ∧
     IsTmIn (fun b => W.heap.size ≤ b ∧ b < w'.heap.size) w' (.int .u8 t.kind) (.int .i64 t.num) (.string t.name) (.slice a t.args.length c) t ∧ Below W.heap.size W w' := by
 obtain ⟨W1, hW1, hr1, hb1, hz1⟩ : ∃ W1, W.alloc (.cells #[.string ⟨#[]⟩, .int .u8 0, .int .i64 0, .string ⟨#[]⟩, .slice none 0 0] 40) = W1 ∧ W1.heap[W.heap.size]? = some (.cells #[.string ⟨#[]⟩, .int .u8 0, .int .i64 0, .string ⟨#[]⟩, .slice none 0 0] 40 (0, 0)) ∧ Below W.heap.size W W1 ∧ W1.heap.size = W.heap.size + 1 :=
   ⟨_, rfl, World.alloc_heap_new _ _, bR.alloc (Nat.le_refl _) _, by simp⟩
 have HTM := Hi (read07_any f s t hr W1)
 have HR1 := Hi hr1
 have HB1 := Hi hb1
 have HZ1 := Hi hz1
 clear hr hr1 hb1 hz1
 go_enter Tryz.func19, Tryz.ntmps19
 go_wp2_with (first
   | (go_at_call 20; refine HTM.out.mono ?_; clear HTM; rintro e W3 ⟨v, rfl, a, c, rfl, ht3, hb3⟩
      have hro := (hb3.block W.heap.size (by have := HZ1.out; omega)).trans HR1.out
      have o0 := cells_at hro 0 _ rfl
      have o1 := cells_at hro 1 _ rfl
      have o2 := cells_at hro 2 _ rfl
      have o3 := cells_at hro 3 _ rfl
      have o4 := cells_at hro 4 _ rfl
      have hff := row_frozen hro
      obtain ⟨W10, hW10, hr10, hb10, hz10, hk10⟩ := setBind W3 W.heap.size _ _ _ _ _ (.string nm) (.int .u8 t.kind) (.int .i64 t.num) (.string t.name) (.slice a t.args.length c) _ hro
      have HT3 := Hi ht3
      have HB3 := Hi hb3
      have HR10 := Hi hr10
      have HB10 := Hi (And.intro hb10 (And.intro hz10 hk10))
      clear hb3 ht3 hro hr10 hb10 hz10 hk10))
 refine bodyPost_ret (v := .agg #[.string nm, .int .u8 t.kind, .int .i64 t.num, .string t.name, .slice a t.args.length c]) (by simp [results, Tryz.f19, go_sem, cells_at HR10.out 0 _ rfl, cells_at HR10.out 1 _ rfl, cells_at HR10.out 2 _ rfl, cells_at HR10.out 3 _ rfl, cells_at HR10.out 4 _ rfl]) rfl ?_
 obtain ⟨hb10, hz10, hk10⟩ := HB10.out
 refine ⟨_, _, rfl, HT3.out.keep fun b hf => ⟨⟨by have := HZ1.out; omega, by rw [hz10]; exact hf.2⟩, hk10 b (by have := HZ1.out; have := hf.1; omega)⟩, ?_⟩
 exact HB1.out.trans ((HB3.out.mono HB1.out.size).trans hb10)
def matchesB (p v : Tm) (b want : Bd) : Bool := match matchL [p] [v] b with
 | some c => sameBd c want
 | none => false
theorem matches07_any (f : Nat) (s1 s2 : ByteArray) (p v : Tm) (h1 : readS f s1 = some p) (h2 : readS f s2 = some v) (b want : Bd) (bv wv : Value) (W : World) (hb : BdV W bv b) (hw : BdV W wv want) (hlb : b.length ≤ 40000) (hcb : ∀ x ∈ b, x.2.count ≤ 1000000) (hsb : ∀ x ∈ b, x.1.size ≤ maxLen) (hcp : p.count ≤ 40000) (hcv : v.count ≤ 1000000) :
   Calls Tryz.prog 21 #[.string s1, .string s2, bv, wv] W fun e w' => e = .returned (.bool (matchesB p v b want)) ∧ Below W.heap.size W w' := by
 have HR1 := Hi (read07_any f s1 p h1 W)
 have HR2 := Hi (fun W => read07_any f s2 v h2 W)
 have HM := Hi (fun (W' : World) (c0 c1 c2 c3 d0 d1 d2 d3 : Value) (hB : Below W.heap.size W W') (hp : IsTm W'.heap.size W' c0 c1 c2 c3 p) (hv : IsTm W'.heap.size W' d0 d1 d2 d3 v) => match_any p v b c0 c1 c2 c3 d0 d1 d2 d3 bv W' hp hv (hb.grow hB) hlb hcb hsb hcp hcv)
 have HW := Hi hw
 have HMB := Hi (show matchesB p v b want = match matchL [p] [v] b with | some c => sameBd c want | none => false from rfl)
 obtain ⟨M, hM⟩ : ∃ M, matchL [p] [v] b = M := ⟨_, rfl⟩
 rw [hM] at HM HMB
 clear h1 h2 hb hw hlb hcb hsb hcp hcv hM
 go_enter Tryz.func21, Tryz.ntmps21
 cases M with
 | none =>
   go_wp2_with (first
     | (go_at_call 15; refine HMM.out.mono ?_; clear HMM; rintro e W4 ⟨hb4, rfl⟩; have HB4 := Hi (HB3.out.trans (hb4.mono HB3.out.size)); clear hb4)
     | (go_at_call 20; have hgd := HT2.out; clear hgd; refine (HR2.out _).mono ?_; clear HR2; rintro e W3 ⟨v3, rfl, a3, c3, rfl, ht3, hb3⟩
        have HB3 := Hi (HB2.out.trans (hb3.mono HB2.out.size))
        have HMM := Hi (HM.out W3 _ _ _ _ _ _ _ _ HB3.out ((HT2.out.keep (ok' := fun b => b < W3.heap.size) fun b hf => ⟨Nat.lt_of_lt_of_le hf.2 hb3.size, hb3.block b hf.2⟩).isTm fun b hf => hf) (ht3.isTm fun b hf => hf.2))
        clear ht3 hb3)
     | (go_at_call 20; refine HR1.out.mono ?_; clear HR1; rintro e W2 ⟨v2, rfl, a2, c2, rfl, ht2, hb2⟩; have HT2 := Hi ht2; have HB2 := Hi hb2; clear ht2 hb2))
   go_ret
   exact ⟨by rw [HMB.out]; rfl, HB4.out⟩
 | some cc =>
   obtain ⟨R, hR⟩ : ∃ R, sameBd cc want = R := ⟨_, rfl⟩
   have HRR := Hi hR
   clear hR
   go_wp2_with (first
     | (go_at_call 17; have hsb := sameBinds_any cc want _ _ W4 HC4.out (HW.out.grow HB4.out); rw [HRR.out] at hsb; refine hsb.mono ?_; clear hsb; rintro e W5 ⟨rfl, hb5⟩; have HB5 := Hi (HB4.out.trans (hb5.mono HB4.out.size)); clear hb5)
     | (go_at_call 15; refine HMM.out.mono ?_; clear HMM; rintro e W4 ⟨hb4, v4, rfl, hc4⟩; have HC4 := Hi hc4; have HB4 := Hi (HB3.out.trans (hb4.mono HB3.out.size)); clear hb4 hc4)
     | (go_at_call 20; have hgd := HT2.out; clear hgd; refine (HR2.out _).mono ?_; clear HR2; rintro e W3 ⟨v3, rfl, a3, c3, rfl, ht3, hb3⟩
        have HB3 := Hi (HB2.out.trans (hb3.mono HB2.out.size))
        have HMM := Hi (HM.out W3 _ _ _ _ _ _ _ _ HB3.out ((HT2.out.keep (ok' := fun b => b < W3.heap.size) fun b hf => ⟨Nat.lt_of_lt_of_le hf.2 hb3.size, hb3.block b hf.2⟩).isTm fun b hf => hf) (ht3.isTm fun b hf => hf.2))
        clear ht3 hb3)
     | (go_at_call 20; refine HR1.out.mono ?_; clear HR1; rintro e W2 ⟨v2, rfl, a2, c2, rfl, ht2, hb2⟩; have HT2 := Hi ht2; have HB2 := Hi hb2; clear ht2 hb2))
   go_ret
   exact ⟨by rw [HMB.out, ← HRR.out]; rfl, HB5.out⟩
def ex0 : Tm := (.mk 1 2 ⟨#[]⟩ [])
theorem ex0_read : readS 20 ⟨#[50]⟩ = some ex0 := by kernel_rfl
def ex1 : Tm := (.mk 4 0 ⟨#[102]⟩ [(.mk 3 0 ⟨#[88]⟩ []), (.mk 3 0 ⟨#[88]⟩ [])])
theorem ex1_read : readS 20 ⟨#[102, 40, 88, 44, 88, 41]⟩ = some ex1 := by kernel_rfl
def ex2 : Tm := (.mk 4 0 ⟨#[102]⟩ [(.mk 1 1 ⟨#[]⟩ []), (.mk 1 2 ⟨#[]⟩ [])])
theorem ex2_read : readS 20 ⟨#[102, 40, 49, 44, 50, 41]⟩ = some ex2 := by kernel_rfl
def ex3 : Tm := (.mk 5 0 ⟨#[43]⟩ [(.mk 3 0 ⟨#[88]⟩ []), (.mk 1 1 ⟨#[]⟩ [])])
theorem ex3_read : readS 20 ⟨#[88, 43, 49]⟩ = some ex3 := by kernel_rfl
def ex4 : Tm := (.mk 1 3 ⟨#[]⟩ [])
theorem ex4_read : readS 20 ⟨#[51]⟩ = some ex4 := by kernel_rfl
def ex5 : Tm := (.mk 1 1 ⟨#[]⟩ [])
theorem ex5_read : readS 20 ⟨#[49]⟩ = some ex5 := by kernel_rfl
def ex6 : Tm := (.mk 2 0 ⟨#[97]⟩ [])
theorem ex6_read : readS 20 ⟨#[97]⟩ = some ex6 := by kernel_rfl
def ex7 : Tm := (.mk 4 0 ⟨#[102]⟩ [(.mk 3 0 ⟨#[88]⟩ []), (.mk 4 0 ⟨#[103]⟩ [(.mk 3 0 ⟨#[89]⟩ [])])])
theorem ex7_read : readS 20 ⟨#[102, 40, 88, 44, 103, 40, 89, 41, 41]⟩ = some ex7 := by kernel_rfl
def ex8 : Tm := (.mk 4 0 ⟨#[102]⟩ [(.mk 1 1 ⟨#[]⟩ []), (.mk 4 0 ⟨#[103]⟩ [(.mk 2 0 ⟨#[97]⟩ [])])])
theorem ex8_read : readS 20 ⟨#[102, 40, 49, 44, 103, 40, 97, 41, 41]⟩ = some ex8 := by kernel_rfl
def ex9 : Tm := (.mk 6 0 ⟨#[]⟩ [(.mk 1 1 ⟨#[]⟩ []), (.mk 1 3 ⟨#[]⟩ [])])
theorem ex9_read : readS 20 ⟨#[49, 46, 46, 51]⟩ = some ex9 := by kernel_rfl
def ex10 : Tm := (.mk 4 0 ⟨#[102]⟩ [(.mk 5 0 ⟨#[43]⟩ [(.mk 3 0 ⟨#[88]⟩ []), (.mk 1 1 ⟨#[]⟩ [])]), (.mk 3 0 ⟨#[88]⟩ [])])
theorem ex10_read : readS 20 ⟨#[102, 40, 88, 43, 49, 44, 88, 41]⟩ = some ex10 := by kernel_rfl
def ex11 : Tm := (.mk 4 0 ⟨#[102]⟩ [(.mk 1 3 ⟨#[]⟩ []), (.mk 1 2 ⟨#[]⟩ [])])
theorem ex11_read : readS 20 ⟨#[102, 40, 51, 44, 50, 41]⟩ = some ex11 := by kernel_rfl
def ex12 : Tm := (.mk 5 0 ⟨#[43]⟩ [(.mk 3 0 ⟨#[88]⟩ []), (.mk 3 0 ⟨#[89]⟩ [])])
theorem ex12_read : readS 20 ⟨#[88, 43, 89]⟩ = some ex12 := by kernel_rfl
def ex13 : Tm := (.mk 5 0 ⟨#[43]⟩ [(.mk 1 2 ⟨#[]⟩ []), (.mk 3 0 ⟨#[89]⟩ [])])
theorem ex13_read : readS 20 ⟨#[50, 43, 89]⟩ = some ex13 := by kernel_rfl
def bdTwo : Bd := [(⟨#[88]⟩, ex0)]
def bdOne : Bd := [(⟨#[88]⟩, ex5), (⟨#[89]⟩, ex6)]
theorem exm1 : matchL [ex1] [ex2] [] = none := by kernel_rfl
theorem exm2 : matchL [ex3] [ex4] [] = none := by kernel_rfl
theorem exm3 : matchesB ex7 ex8 [] bdOne = true := by kernel_rfl
theorem exm4 : matchesB ex3 ex4 bdTwo bdTwo = true := by kernel_rfl
theorem exm5 : matchesB ex9 ex0 [] [] = true := by kernel_rfl
theorem exm6 : matchesB ex10 ex11 [] bdTwo = true := by kernel_rfl
theorem exm7 : applyT (prs bdTwo) ex12 = ex13 := by kernel_rfl
theorem BdV.one {w : World} {g : Nat} {nm : ByteArray} {c0 c1 c2 c3 : Value} {t : Tm} (hg : w.heap[g]? = some (.cells #[.string nm, c0, c1, c2, c3] 40 (0, 0))) (hn : nm.size ≤ maxLen) (h : IsTm w.heap.size w c0 c1 c2 c3 t) : BdV w (.slice (some ⟨g, 0, none⟩) 1 1) [(nm, t)] := by
 refine ⟨some ⟨g, 0, none⟩, 1, rfl, Nat.le_refl _, by unfold maxLen; omega, fun _ => ⟨g, 0, rfl, (gL hg), ?_⟩⟩
 simp only [IsBs]
 exact ⟨hn, cells_at hg 0 _ rfl, ⟨c0, c1, c2, c3, cells_at hg 1 _ rfl, cells_at hg 2 _ rfl, cells_at hg 3 _ rfl, cells_at hg 4 _ rfl, h⟩, trivial⟩
theorem BdV.two {w : World} {g : Nat} {nm nm' : ByteArray} {c0 c1 c2 c3 d0 d1 d2 d3 : Value} {t u : Tm} (hg : w.heap[g]? = some (.cells #[.string nm, c0, c1, c2, c3, .string nm', d0, d1, d2, d3] 40 (0, 0))) (hn : nm.size ≤ maxLen) (hn' : nm'.size ≤ maxLen) (h : IsTm w.heap.size w c0 c1 c2 c3 t) (h' : IsTm w.heap.size w d0 d1 d2 d3 u) : BdV w (.slice (some ⟨g, 0, none⟩) 2 2) [(nm, t), (nm', u)] := by
 refine ⟨some ⟨g, 0, none⟩, 2, rfl, Nat.le_refl _, by unfold maxLen; omega, fun _ => ⟨g, 0, rfl, (gL hg), ?_⟩⟩
 simp only [IsBs]
 exact ⟨hn, cells_at hg 0 _ rfl, ⟨c0, c1, c2, c3, cells_at hg 1 _ rfl, cells_at hg 2 _ rfl, cells_at hg 3 _ rfl, cells_at hg 4 _ rfl, h⟩, hn', cells_at hg 5 _ rfl, ⟨d0, d1, d2, d3, cells_at hg 6 _ rfl, cells_at hg 7 _ rfl, cells_at hg 8 _ rfl, cells_at hg 9 _ rfl, h'⟩, trivial⟩
theorem bdTwo_ok : bdTwo.length ≤ 40000 ∧ (∀ x ∈ bdTwo, x.2.count ≤ 1000000) ∧ ∀ x ∈ bdTwo, x.1.size ≤ maxLen := by
 refine ⟨by decide, fun x hx => ?_, fun x hx => ?_⟩
 · unfold bdTwo at hx
   obtain rfl := List.mem_singleton.1 hx
   decide
 · unfold bdTwo at hx
   obtain rfl := List.mem_singleton.1 hx
   unfold maxLen; decide
theorem awake07_any (w : World) : Calls Tryz.prog 5 #[] w fun e w' => e = .returned (.bool true) ∧ Below w.heap.size w w' := by
 have HTW := Hi bdTwo_ok
 go_enter Tryz.func5, Tryz.ntmps5
 go_wp2_with (first
   | (go_at_call 22; have hgd := HB16.out; clear hgd; have hm := sameTerm_any ex13 ex13 _ _ _ _ _ _ _ _ V16 ((HT15.out.below HG16.out).mono HG16.out.size) HT16.out; rw [show sameB ex13 ex13 = true from by kernel_rfl] at hm; refine hm.mono ?_; clear hm; rintro e V17 ⟨rfl, hb⟩
      have HB17 := Hi (HB16.out.trans (hb.mono HB16.out.size))
      clear hb)
   | (go_at_call 20; have hgd := HB15.out; clear hgd; refine (read07_any 20 ⟨#[50, 43, 89]⟩ ex13 ex13_read _).mono ?_; rintro e V16 ⟨v, rfl, a16, c16, rfl, ht, hb⟩
      have HB16 := Hi (HB15.out.trans (hb.mono HB15.out.size))
      have HT16 := Hi (show IsTm V16.heap.size V16 _ _ _ _ ex13 from ht.isTm fun b hf => hf.2)
      have HG16 := Hi hb
      clear ht hb)
   | (go_at_call 9; have hgd := HB14.out; clear hgd; have hm := mApply_any bdTwo (by decide) HTW.out.2.1 HTW.out.2.2 (.slice (some ⟨W1.heap.size, 0, none⟩) 1 1) ex12 _ _ _ _ V14 (HTWO.out.grow HB14.out) HT14.out (by decide); rw [exm7] at hm; refine hm.mono ?_; clear hm; rintro e V15 ⟨d0, d1, d2, d3, rfl, ht, hb⟩
      have HB15 := Hi (HB14.out.trans (hb.mono HB14.out.size))
      have HT15 := Hi (show IsTm V15.heap.size V15 _ _ _ _ ex13 from ht.isTm fun b hf => hf.2)
      clear ht hb)
   | (go_at_call 20; have hgd := HB13.out; clear hgd; refine (read07_any 20 ⟨#[88, 43, 89]⟩ ex12 ex12_read _).mono ?_; rintro e V14 ⟨v, rfl, a14, c14, rfl, ht, hb⟩
      have HB14 := Hi (HB13.out.trans (hb.mono HB13.out.size))
      have HT14 := Hi (show IsTm V14.heap.size V14 _ _ _ _ ex12 from ht.isTm fun b hf => hf.2)
      clear ht hb)
   | (go_at_call 21; have hgd := HB12.out; clear hgd; have hm := matches07_any 20 ⟨#[102, 40, 88, 43, 49, 44, 88, 41]⟩ ⟨#[102, 40, 51, 44, 50, 41]⟩ ex10 ex11 ex10_read ex11_read [] bdTwo (.slice none 0 0) (.slice (some ⟨W1.heap.size, 0, none⟩) 1 1) V12 (BdV.nil _) (HTWO.out.grow HB12.out) (by decide) (fun x hx => (List.not_mem_nil hx).elim) (fun x hx => (List.not_mem_nil hx).elim) (by decide) (by decide); rw [exm6] at hm; refine hm.mono ?_; clear hm; rintro e V13 ⟨rfl, hb⟩
      have HB13 := Hi (HB12.out.trans (hb.mono HB12.out.size))
      clear hb)
   | (go_at_call 21; have hgd := HB11.out; clear hgd; have hm := matches07_any 20 ⟨#[49, 46, 46, 51]⟩ ⟨#[50]⟩ ex9 ex0 ex9_read ex0_read [] [] (.slice none 0 0) (.slice none 0 0) V11 (BdV.nil _) (BdV.nil _) (by decide) (fun x hx => (List.not_mem_nil hx).elim) (fun x hx => (List.not_mem_nil hx).elim) (by decide) (by decide); rw [exm5] at hm; refine hm.mono ?_; clear hm; rintro e V12 ⟨rfl, hb⟩
      have HB12 := Hi (HB11.out.trans (hb.mono HB11.out.size))
      clear hb)
   | (go_at_call 21; have hgd := HB10.out; clear hgd; have hm := matches07_any 20 ⟨#[88, 43, 49]⟩ ⟨#[51]⟩ ex3 ex4 ex3_read ex4_read bdTwo bdTwo (.slice (some ⟨W1.heap.size, 0, none⟩) 1 1) (.slice (some ⟨W1.heap.size, 0, none⟩) 1 1) V10 (HTWO.out.grow HB10.out) (HTWO.out.grow HB10.out) HTW.out.1 HTW.out.2.1 HTW.out.2.2 (by decide) (by decide); rw [exm4] at hm; refine hm.mono ?_; clear hm; rintro e V11 ⟨rfl, hb⟩
      have HB11 := Hi (HB10.out.trans (hb.mono HB10.out.size))
      clear hb)
   | (go_at_call 21; have hgd := HBU.out; clear hgd; rw [HU.out]; have hm := matches07_any 20 ⟨#[102, 40, 88, 44, 103, 40, 89, 41, 41]⟩ ⟨#[102, 40, 49, 44, 103, 40, 97, 41, 41]⟩ ex7 ex8 ex7_read ex8_read [] bdOne (.slice none 0 0) (.slice (some ⟨V9.heap.size, 0, none⟩) 2 2) U (BdV.nil _) HONE.out (by decide) (fun x hx => (List.not_mem_nil hx).elim) (fun x hx => (List.not_mem_nil hx).elim) (by decide) (by decide); rw [exm3] at hm; refine hm.mono ?_; clear hm; rintro e V10 ⟨rfl, hb⟩
      have HB10 := Hi (HBU.out.trans (hb.mono HBU.out.size))
      clear hb)
   | (go_at_call 19; have hgd := HB8.out; clear hgd; refine (pair07_any 20 ⟨#[89]⟩ ⟨#[97]⟩ ex6 ex6_read _).mono ?_; rintro e V9 ⟨a9, c9, rfl, ht, hb⟩
      have HB9 := Hi (HB8.out.trans (hb.mono HB8.out.size))
      have HT9 := Hi ht
      have HG9 := Hi hb
      obtain ⟨U, hU, hrU, hbU⟩ : ∃ U, V9.alloc (.cells #[.string ⟨#[88]⟩, .int .u8 ex5.kind, .int .i64 ex5.num, .string ex5.name, .slice a8 ex5.args.length c8, .string ⟨#[89]⟩, .int .u8 ex6.kind, .int .i64 ex6.num, .string ex6.name, .slice a9 ex6.args.length c9] 40) = U ∧ U.heap[V9.heap.size]? = some (.cells #[.string ⟨#[88]⟩, .int .u8 ex5.kind, .int .i64 ex5.num, .string ex5.name, .slice a8 ex5.args.length c8, .string ⟨#[89]⟩, .int .u8 ex6.kind, .int .i64 ex6.num, .string ex6.name, .slice a9 ex6.args.length c9] 40 (0, 0)) ∧ Below V9.heap.size V9 U := ⟨_, rfl, World.alloc_heap_new _ _, bR.alloc (Nat.le_refl _) _⟩
      have HONE := Hi (show BdV U (.slice (some ⟨V9.heap.size, 0, none⟩) 2 2) bdOne from BdV.two hrU (by unfold maxLen; decide) (by unfold maxLen; decide) ((HT8.out.keep (ok' := fun b => b < U.heap.size) fun b hf => ⟨by have := hf.2; have := hb.size; have := hbU.size; omega, (hbU.block b (Nat.lt_of_lt_of_le hf.2 hb.size)).trans (hb.block b hf.2)⟩).isTm fun b hf => hf) ((ht.keep (ok' := fun b => b < U.heap.size) fun b hf => ⟨Nat.lt_of_lt_of_le hf.2 hbU.size, hbU.block b hf.2⟩).isTm fun b hf => hf))
      have HU := Hi hU
      have HBU := Hi (HB9.out.trans (hbU.mono HB9.out.size))
      clear hU hrU hbU
      clear ht hb)
   | (go_at_call 19; have hgd := HB7.out; clear hgd; refine (pair07_any 20 ⟨#[88]⟩ ⟨#[49]⟩ ex5 ex5_read _).mono ?_; rintro e V8 ⟨a8, c8, rfl, ht, hb⟩
      have HB8 := Hi (HB7.out.trans (hb.mono HB7.out.size))
      have HT8 := Hi ht
      have HG8 := Hi hb
      clear ht hb)
   | (go_at_call 15; have hgd := HB6.out; clear hgd; refine (match_any ex3 ex4 [] _ _ _ _ _ _ _ _ _ V6 ((HT5.out.below HG6.out).mono HG6.out.size) HT6.out (BdV.nil _) (by decide) (fun x hx => (List.not_mem_nil hx).elim) (fun x hx => (List.not_mem_nil hx).elim) (by decide) (by decide)).mono ?_; intro e V7 hp; unfold MatchPost at hp; rw [exm2] at hp; obtain ⟨hb, rfl⟩ := hp
      have HB7 := Hi (HB6.out.trans (hb.mono HB6.out.size))
      clear hb)
   | (go_at_call 20; have hgd := HB5.out; clear hgd; refine (read07_any 20 ⟨#[51]⟩ ex4 ex4_read _).mono ?_; rintro e V6 ⟨v, rfl, a6, c6, rfl, ht, hb⟩
      have HB6 := Hi (HB5.out.trans (hb.mono HB5.out.size))
      have HT6 := Hi (show IsTm V6.heap.size V6 _ _ _ _ ex4 from ht.isTm fun b hf => hf.2)
      have HG6 := Hi hb
      clear ht hb)
   | (go_at_call 20; have hgd := HB4.out; clear hgd; refine (read07_any 20 ⟨#[88, 43, 49]⟩ ex3 ex3_read _).mono ?_; rintro e V5 ⟨v, rfl, a5, c5, rfl, ht, hb⟩
      have HB5 := Hi (HB4.out.trans (hb.mono HB4.out.size))
      have HT5 := Hi (show IsTm V5.heap.size V5 _ _ _ _ ex3 from ht.isTm fun b hf => hf.2)
      clear ht hb)
   | (go_at_call 15; have hgd := HB3.out; clear hgd; refine (match_any ex1 ex2 [] _ _ _ _ _ _ _ _ _ V3 ((HT2.out.below HG3.out).mono HG3.out.size) HT3.out (BdV.nil _) (by decide) (fun x hx => (List.not_mem_nil hx).elim) (fun x hx => (List.not_mem_nil hx).elim) (by decide) (by decide)).mono ?_; intro e V4 hp; unfold MatchPost at hp; rw [exm1] at hp; obtain ⟨hb, rfl⟩ := hp
      have HB4 := Hi (HB3.out.trans (hb.mono HB3.out.size))
      clear hb)
   | (go_at_call 20; have hgd := HB2.out; clear hgd; refine (read07_any 20 ⟨#[102, 40, 49, 44, 50, 41]⟩ ex2 ex2_read _).mono ?_; rintro e V3 ⟨v, rfl, a3, c3, rfl, ht, hb⟩
      have HB3 := Hi (HB2.out.trans (hb.mono HB2.out.size))
      have HT3 := Hi (show IsTm V3.heap.size V3 _ _ _ _ ex2 from ht.isTm fun b hf => hf.2)
      have HG3 := Hi hb
      clear ht hb)
   | (go_at_call 20; have hgd := HB1.out; clear hgd; rw [HW2.out]; refine (read07_any 20 ⟨#[102, 40, 88, 44, 88, 41]⟩ ex1 ex1_read _).mono ?_; rintro e V2 ⟨v, rfl, a2, c2, rfl, ht, hb⟩
      have HB2 := Hi (HB1.out.trans (hb.mono HB1.out.size))
      have HT2 := Hi (show IsTm V2.heap.size V2 _ _ _ _ ex1 from ht.isTm fun b hf => hf.2)
      clear ht hb)
   | (go_at_call 19; refine (pair07_any 20 ⟨#[88]⟩ ⟨#[50]⟩ ex0 ex0_read w).mono ?_; rintro e W1 ⟨a1, c1, rfl, ht1, hb1⟩
      obtain ⟨W2, hW2, hr2, hb2⟩ : ∃ W2, W1.alloc (.cells #[.string ⟨#[88]⟩, .int .u8 ex0.kind, .int .i64 ex0.num, .string ex0.name, .slice a1 ex0.args.length c1] 40) = W2 ∧ W2.heap[W1.heap.size]? = some (.cells #[.string ⟨#[88]⟩, .int .u8 ex0.kind, .int .i64 ex0.num, .string ex0.name, .slice a1 ex0.args.length c1] 40 (0, 0)) ∧ Below W1.heap.size W1 W2 := ⟨_, rfl, World.alloc_heap_new _ _, bR.alloc (Nat.le_refl _) _⟩
      have HTWO := Hi (show BdV W2 (.slice (some ⟨W1.heap.size, 0, none⟩) 1 1) bdTwo from BdV.one hr2 (by unfold maxLen; decide) ((ht1.keep (ok' := fun b => b < W2.heap.size) fun b hf => ⟨Nat.lt_of_lt_of_le hf.2 hb2.size, hb2.block b hf.2⟩).isTm fun b hf => hf))
      have HW := Hi (show Below w.heap.size w W2 from hb1.trans (hb2.mono hb1.size))
      have HW2 := Hi hW2
      have HB1 := Hi (Below.refl W2.heap.size W2)
      clear ht1 hb1 hr2 hb2 hW2))
 go_ret
 exact ⟨rfl, HW.out.trans (HB17.out.mono HW.out.size)⟩
end Go.Proofs.YtlmdhlckgbgfhaaGreatDoor
namespace Go.Proofs.YtlmdhlckgbgfhaaGreatDoor
open Go.RowKit Go.Shelf
attribute [local go_sem] Oper.semAt_some

def StrsV (base : Nat) (w : World) (v : Value) (l : List ByteArray) : Prop := w.ownsRow base 9 1 v l.length (l.map Value.string) ∧ (l = [] → v = .slice none 0 0)
theorem StrsV.nil (base : Nat) (w : World) : StrsV base w (.slice none 0 0) [] := ⟨World.ownsRow_nil _ _ _ _, fun _ => rfl⟩
theorem StrsV.grow {base : Nat} {w w' : World} {v : Value} {l : List ByteArray} (h : StrsV base w v l) (hb : Below w.heap.size w w') : StrsV base w' v l := ⟨own_grown h.1 hb, h.2⟩
theorem info_string07 : (Tryz.prog.info? 9).map (fun i => (i.zero, i.size, i.bytes)) = some (some (.string ⟨#[]⟩), 1, 16) := by kernel_rfl
def OutAt (t : Tm) : Prop := ∀ (c0 c1 c2 c3 : Value) (w : World), IsTm w.heap.size w c0 c1 c2 c3 t → t.count ≤ 1000000 → Calls Tryz.prog 12 #[.agg #[c0, c1, c2, c3]] w fun e w' => ∃ v, e = .returned v ∧ StrsV w.heap.size w' v (outerT t) ∧ Below w.heap.size w w'
mutual
theorem outerT_len : ∀ t : Tm, (outerT t).length ≤ t.count
 | .mk k n s us => by
   simp only [outerT, Tm.count]
   have := outerL_len us
   split
   · simp
   · split <;> simp <;> omega
theorem outerL_len : ∀ ts : List Tm, (outerL ts).length ≤ Tm.countL ts
 | [] => by simp [outerL]
 | t :: ts => by
   simp only [outerL, Tm.countL, List.length_append]
   have := outerT_len t
   have := outerL_len ts
   omega
end
theorem StrsV.low {base base' : Nat} {w : World} {v : Value} {l : List ByteArray} (h : StrsV base w v l) (hb : base' ≤ base) : StrsV base' w v l := by
 refine ⟨⟨h.1.1, h.1.2.imp id ?_⟩, h.2⟩
 rintro ⟨g, cap, cur, e, q1, q2⟩
 exact ⟨g, cap, cur, e, Nat.le_trans hb q1, q2⟩
theorem countL_pre : ∀ (ts : List Tm) (j : Nat), Tm.countL (ts.take j) ≤ Tm.countL ts
 | [], j => by simp
 | t :: ts, 0 => by simp [Tm.countL]
 | t :: ts, j + 1 => by
   have := countL_pre ts j
   simp only [List.take_succ_cons, Tm.countL]
   omega
theorem outer07_any (t : Tm) : OutAt t := by
 induction t using Tm.ind with
 | h k n s us ih =>
   intro c0 c1 c2 c3 w h hc
   simp only [IsTm] at h
   obtain ⟨rfl, _, rfl, _, rfl, _, a, cap, rfl, hl, hr⟩ := h
   simp only [Tm.count] at hc
   obtain ⟨W1, hW1, hq, hb1, hz1⟩ := rowTerm w (.int .u8 k) (.int .i64 n) (.string s) (.slice a us.length cap)
   have q0 := cells_at hq 0 _ rfl
   have q2 := cells_at hq 2 _ rfl
   have q3 := cells_at hq 3 _ rfl
   have HQ := Hi hq
   have HB1 := Hi hb1
   have HZ1 := Hi hz1
   have HR := Hi hr
   have HIH := Hi ih
   have HC := Hi hc
   have hlen : us.length ≤ 9223372036854775807 := by unfold maxLen at hl; exact hl
   obtain ⟨i0, hi, hz0, hzz1, hz2⟩ := info_parts info_string07
   clear hq hb1 hz1 hr ih hc hl
   go_enter Tryz.func12, Tryz.ntmps12
   by_cases h5 : k = 5
   · subst h5
     go_wp2
     go_ret
     exact ⟨_, rfl, by simpa [outerT] using StrsV.nil _ _, HB1.out⟩
   · by_cases h6 : k = 6
     · subst h6
       go_wp2
       go_ret
       exact ⟨_, rfl, by simpa [outerT] using StrsV.nil _ _, HB1.out⟩
     · have b5 : (k == 5) = false := by simpa using h5
       have b6 : (k == 6) = false := by simpa using h6
       have HT := Hi (show outerT (.mk k n s us) = (if k = 3 then [s] else []) ++ outerL us by simp [outerT, h5, h6])
       obtain ⟨L0, hL0⟩ : ∃ L0, (if k = 3 then [s] else []) = L0 := ⟨_, rfl⟩
       rw [hL0] at HT
       have hL1 : L0.length ≤ 1 := by rw [← hL0]; split <;> simp
       have HL1 := Hi hL1
       clear h5 h6 hL1
       by_cases h3 : k = 3
       · subst h3
         rw [if_pos rfl] at hL0
         go_wp2_with (at_builtin; refine wpList_append_own_at _ rfl _ _ 36 rfl W1.heap.size 9 i0 _ 1 16 Tryz.underlying36 hi hz0 hzz1 hz2 rfl (by decide) (.slice none 0 0) 0 [] rfl (World.ownsRow_nil _ _ _ _) ⟨W1.heap.size, 0, none⟩ 1 1 [.string s] rfl rfl ?c1 ?c2 ?c3 ?c4 ?c5 ?_)
         case c1 =>
           intro jj u' hu'
           cases jj with
           | zero => cases hu'; exact cells_at (World.alloc_heap_new W1 (.cells #[.string s] 9)) 0 _ rfl
           | succ jj => simp at hu'
         case c2 => simp [Value.oneCell']
         case c3 => unfold maxLen; omega
         case c4 => omega
         case c5 => simp
         intro v' Wa hown' hgrow hne hat
         obtain ⟨b1, b2, b3, rfl⟩ := ownSlice hown'
         have hba : Below W1.heap.size W1 Wa := ((Below.refl _ W1).alloc (Nat.le_refl _) (.cells #[.string s] 9)).grown hgrow (by simp) (fun k e => by cases e)
         have HV0 := Hi (show StrsV W1.heap.size Wa (.slice b1 b2 b3) L0 by rw [← hL0]; exact ⟨hown', fun e => by cases e⟩)
         have HBa := Hi hba
         clear hown' hgrow hba hne hat hL0
         try simp only [Act.put, List.setIfInBounds_toArray, List.set_cons_succ, List.set_cons_zero]
         go_wp2
         go_loopw [3, 4] (fun v i wr => ∃ j : Nat, j ≤ us.length ∧ i = .int .i64 j ∧ StrsV W1.heap.size wr v (L0 ++ outerL (us.take j)) ∧ Below W1.heap.size W1 wr) (fun _ i _ => us.length - (intOf i).toNat)
         case atStart => exact ⟨0, Nat.zero_le _, rfl, by simpa [outerL] using HV0.out, HBa.out⟩
         case round =>
           obtain ⟨j, hj, rfl, hV, hB⟩ := hrel
           have hq1 := (hB.block w.heap.size (gL HQ.out)).trans HQ.out
           have q3 := cells_at hq1 3 _ rfl
           have HB := Hi hB
           have HV := Hi hV
           clear hq1 hB
           by_cases hlt : j < us.length
           · obtain ⟨g, off, rfl, hg, hi'⟩ := HR.out (by intro e; rw [e] at hlt; simp at hlt)
             have hB0 : Below w.heap.size w wr := HB1.out.trans (HB.out.mono HB1.out.size)
             obtain ⟨x0, x1, x2, x3, y0, y1, y2, y3, ht⟩ := (hi'.below hB0 hg).at j hlt
             have HI := Hi (HIH.out us[j] (List.getElem_mem hlt) x0 x1 x2 x3 wr (ht.mono hB0.size) (by have := HC.out; have := count_mem (List.getElem_mem hlt); omega))
             have htk : outerL (us.take (j + 1)) = outerL (us.take j) ++ outerT us[j] := by rw [List.take_succ_eq_append_getElem hlt, outerL_snoc]
             have hsz : (L0 ++ outerL (us.take j)).length + (outerT us[j]).length ≤ 2000000 := by
               have h1 := outerL_len us
               have h2 := HC.out
               have h3 := HL1.out
               have h4 := outerL_len (us.take (j + 1))
               rw [htk] at h4
               have h5 : Tm.countL (us.take (j + 1)) ≤ Tm.countL us := countL_pre us (j + 1)
               simp only [List.length_append] at h4 ⊢
               omega
             obtain ⟨O, hO⟩ : ∃ O, outerT us[j] = O := ⟨_, rfl⟩
             rw [hO] at HI htk hsz
             have HTK := Hi htk
             obtain ⟨Q, hQ⟩ : ∃ Q, L0 ++ outerL (us.take j) = Q := ⟨_, rfl⟩
             rw [hQ] at HV hV hsz
             have HQQ := Hi hQ
             have HSZ := Hi hsz
             have i1 : (0 : Int) ≤ (j : Int) := by omega
             have i2 : (j : Int) < (us.length : Int) := by omega
             obtain ⟨hown0, hnil0⟩ := hV
             have HOW := Hi hown0
             obtain ⟨va, vn, vc, rfl⟩ := ownSlice hown0
             clear hi' hB0 ht htk hO hQ hsz hown0 hnil0
             by_cases hoe : O = []
             · subst hoe
               go_wp2_with (first
                 | (at_builtin; refine wpList_append_own_none rfl _ _ 36 rfl W1.heap.size 9 i0 1 Tryz.underlying36 hi (.slice va vn vc) _ _ rfl (own_grown HOW.out HB5.out) rfl ?_)
                 | (go_at_call 12; refine HI.out.mono ?_; clear HI; rintro e w5 ⟨v5, rfl, hs5, hb5⟩; obtain rfl := hs5.2 rfl; have HB5 := Hi hb5; clear hs5 hb5))
               try simp only [Act.put, List.setIfInBounds_toArray, List.set_cons_succ, List.set_cons_zero]
               go_wp2
               go_roundw
               case rel => exact ⟨j + 1, by omega, by go_num, by rw [HTK.out, List.append_nil, HQQ.out]; exact HV.out.grow HB5.out, HB.out.trans (HB5.out.mono HB.out.size)⟩
               case measure => simp [intOf]; omega
             · go_wp2_with (first
                 | (at_builtin; refine wpList_append_own_at _ rfl _ _ 36 rfl W1.heap.size 9 i0 _ 1 16 Tryz.underlying36 hi hz0 hzz1 hz2 rfl (by decide) (.slice va vn vc) Q.length (Q.map Value.string) rfl (own_grown HOW.out HB5.out) ⟨g5, 0, none⟩ O.length cap5 (O.map Value.string) rfl (by simp) ?c1 ?c2 ?c3 ?c4 ?c5 ?_)
                 | (go_at_call 12; refine HI.out.mono ?_; clear HI; rintro e w5 ⟨v5, rfl, hs5, hb5⟩
                    have hs50 := hs5.1
                    obtain ⟨_, ⟨_, h0⟩ | ⟨g5, cap5, cur5, rfl, _⟩⟩ := hs50
                    · exact absurd (List.length_eq_zero_iff.1 h0) hoe
                    have HS5 := Hi hs5.1
                    have HB5 := Hi hb5
                    clear hs5 hb5))
               case c1 =>
                 intro jj u' hu'
                 exact HS5.out.cells (g := g5) rfl jj u' hu'
               case c2 =>
                 intro u hu
                 obtain ⟨x, _, rfl⟩ := List.mem_map.1 hu
                 rfl
               case c3 => have := HSZ.out; unfold maxLen; omega
               case c4 => have := HSZ.out; omega
               case c5 => have := HB.out.size; have := HB5.out.size; omega
               intro v' w' hown' hgrow _ _
               obtain ⟨b1, b2, b3, rfl⟩ := ownSlice hown'
               have hB' : Below W1.heap.size W1 w' := (HB.out.trans (HB5.out.mono HB.out.size)).grown hgrow (by have := HB.out.size; have := HB5.out.size; omega) (fun k e => (HOW.out.lt k e).1)
               have HB' := Hi hB'
               have HOWN := Hi hown'
               clear hown' hgrow hB'
               try simp only [Act.put, List.setIfInBounds_toArray, List.set_cons_succ, List.set_cons_zero]
               go_wp2
               go_roundw
               case rel => exact ⟨j + 1, by omega, by go_num, by rw [HTK.out, ← List.append_assoc, HQQ.out]; exact ⟨by rw [List.length_append, List.map_append]; exact HOWN.out, fun e => absurd (List.append_eq_nil_iff.1 e).2 hoe⟩, HB'.out⟩
               case measure => simp [intOf]; omega
           · have i2 : ¬ (j : Int) < (us.length : Int) := by omega
             rw [List.take_of_length_le (by omega)] at hV
             obtain ⟨va, vn, vc, rfl⟩ := ownSlice hV.1
             have HV := Hi hV
             clear hV
             go_wp2
             go_ret
             exact ⟨_, rfl, by rw [HT.out]; exact HV.out.low HB1.out.size, HB1.out.trans (HB.out.mono HB1.out.size)⟩
       · have b3 : (k == 3) = false := by simpa using h3
         rw [if_neg h3] at hL0
         have HV0 := Hi (show StrsV W1.heap.size W1 (.slice none 0 0) L0 by rw [← hL0]; exact StrsV.nil _ _)
         have HBa := Hi (Below.refl W1.heap.size W1)
         clear h3 hL0
         go_wp2
         go_loopw [3, 4] (fun v i wr => ∃ j : Nat, j ≤ us.length ∧ i = .int .i64 j ∧ StrsV W1.heap.size wr v (L0 ++ outerL (us.take j)) ∧ Below W1.heap.size W1 wr) (fun _ i _ => us.length - (intOf i).toNat)
         case atStart => exact ⟨0, Nat.zero_le _, rfl, by simpa [outerL] using HV0.out, HBa.out⟩
         case round =>
           obtain ⟨j, hj, rfl, hV, hB⟩ := hrel
           have hq1 := (hB.block w.heap.size (gL HQ.out)).trans HQ.out
           have q3 := cells_at hq1 3 _ rfl
           have HB := Hi hB
           have HV := Hi hV
           clear hq1 hB
           by_cases hlt : j < us.length
           · obtain ⟨g, off, rfl, hg, hi'⟩ := HR.out (by intro e; rw [e] at hlt; simp at hlt)
             have hB0 : Below w.heap.size w wr := HB1.out.trans (HB.out.mono HB1.out.size)
             obtain ⟨x0, x1, x2, x3, y0, y1, y2, y3, ht⟩ := (hi'.below hB0 hg).at j hlt
             have HI := Hi (HIH.out us[j] (List.getElem_mem hlt) x0 x1 x2 x3 wr (ht.mono hB0.size) (by have := HC.out; have := count_mem (List.getElem_mem hlt); omega))
             have htk : outerL (us.take (j + 1)) = outerL (us.take j) ++ outerT us[j] := by rw [List.take_succ_eq_append_getElem hlt, outerL_snoc]
             have hsz : (L0 ++ outerL (us.take j)).length + (outerT us[j]).length ≤ 2000000 := by
               have h1 := outerL_len us
               have h2 := HC.out
               have h3 := HL1.out
               have h4 := outerL_len (us.take (j + 1))
               rw [htk] at h4
               have h5 : Tm.countL (us.take (j + 1)) ≤ Tm.countL us := countL_pre us (j + 1)
               simp only [List.length_append] at h4 ⊢
               omega
             obtain ⟨O, hO⟩ : ∃ O, outerT us[j] = O := ⟨_, rfl⟩
             rw [hO] at HI htk hsz
             have HTK := Hi htk
             obtain ⟨Q, hQ⟩ : ∃ Q, L0 ++ outerL (us.take j) = Q := ⟨_, rfl⟩
             rw [hQ] at HV hV hsz
             have HQQ := Hi hQ
             have HSZ := Hi hsz
             have i1 : (0 : Int) ≤ (j : Int) := by omega
             have i2 : (j : Int) < (us.length : Int) := by omega
             obtain ⟨hown0, hnil0⟩ := hV
             have HOW := Hi hown0
             obtain ⟨va, vn, vc, rfl⟩ := ownSlice hown0
             clear hi' hB0 ht htk hO hQ hsz hown0 hnil0
             by_cases hoe : O = []
             · subst hoe
               go_wp2_with (first
                 | (at_builtin; refine wpList_append_own_none rfl _ _ 36 rfl W1.heap.size 9 i0 1 Tryz.underlying36 hi (.slice va vn vc) _ _ rfl (own_grown HOW.out HB5.out) rfl ?_)
                 | (go_at_call 12; refine HI.out.mono ?_; clear HI; rintro e w5 ⟨v5, rfl, hs5, hb5⟩; obtain rfl := hs5.2 rfl; have HB5 := Hi hb5; clear hs5 hb5))
               try simp only [Act.put, List.setIfInBounds_toArray, List.set_cons_succ, List.set_cons_zero]
               go_wp2
               go_roundw
               case rel => exact ⟨j + 1, by omega, by go_num, by rw [HTK.out, List.append_nil, HQQ.out]; exact HV.out.grow HB5.out, HB.out.trans (HB5.out.mono HB.out.size)⟩
               case measure => simp [intOf]; omega
             · go_wp2_with (first
                 | (at_builtin; refine wpList_append_own_at _ rfl _ _ 36 rfl W1.heap.size 9 i0 _ 1 16 Tryz.underlying36 hi hz0 hzz1 hz2 rfl (by decide) (.slice va vn vc) Q.length (Q.map Value.string) rfl (own_grown HOW.out HB5.out) ⟨g5, 0, none⟩ O.length cap5 (O.map Value.string) rfl (by simp) ?c1 ?c2 ?c3 ?c4 ?c5 ?_)
                 | (go_at_call 12; refine HI.out.mono ?_; clear HI; rintro e w5 ⟨v5, rfl, hs5, hb5⟩
                    have hs50 := hs5.1
                    obtain ⟨_, ⟨_, h0⟩ | ⟨g5, cap5, cur5, rfl, _⟩⟩ := hs50
                    · exact absurd (List.length_eq_zero_iff.1 h0) hoe
                    have HS5 := Hi hs5.1
                    have HB5 := Hi hb5
                    clear hs5 hb5))
               case c1 =>
                 intro jj u' hu'
                 exact HS5.out.cells (g := g5) rfl jj u' hu'
               case c2 =>
                 intro u hu
                 obtain ⟨x, _, rfl⟩ := List.mem_map.1 hu
                 rfl
               case c3 => have := HSZ.out; unfold maxLen; omega
               case c4 => have := HSZ.out; omega
               case c5 => have := HB.out.size; have := HB5.out.size; omega
               intro v' w' hown' hgrow _ _
               obtain ⟨b1, b2, b3, rfl⟩ := ownSlice hown'
               have hB' : Below W1.heap.size W1 w' := (HB.out.trans (HB5.out.mono HB.out.size)).grown hgrow (by have := HB.out.size; have := HB5.out.size; omega) (fun k e => (HOW.out.lt k e).1)
               have HB' := Hi hB'
               have HOWN := Hi hown'
               clear hown' hgrow hB'
               try simp only [Act.put, List.setIfInBounds_toArray, List.set_cons_succ, List.set_cons_zero]
               go_wp2
               go_roundw
               case rel => exact ⟨j + 1, by omega, by go_num, by rw [HTK.out, ← List.append_assoc, HQQ.out]; exact ⟨by rw [List.length_append, List.map_append]; exact HOWN.out, fun e => absurd (List.append_eq_nil_iff.1 e).2 hoe⟩, HB'.out⟩
               case measure => simp [intOf]; omega
           · have i2 : ¬ (j : Int) < (us.length : Int) := by omega
             rw [List.take_of_length_le (by omega)] at hV
             obtain ⟨va, vn, vc, rfl⟩ := ownSlice hV.1
             have HV := Hi hV
             clear hV
             go_wp2
             go_ret
             exact ⟨_, rfl, by rw [HT.out]; exact HV.out.low HB1.out.size, HB1.out.trans (HB.out.mono HB1.out.size)⟩

def StrsAt (w : World) (v : Value) (l : List ByteArray) : Prop := ∃ (a : Option Addr) (cap : Nat), v = .slice a l.length cap ∧ l.length ≤ maxLen ∧ (l ≠ [] → ∃ g off, a = some ⟨g, off, none⟩ ∧ ∀ (i : Nat) x, l[i]? = some x → w.cell? ⟨g, off + i, none⟩ = some (.string x))
theorem StrsV.at {base : Nat} {w : World} {v : Value} {l : List ByteArray} (h : StrsV base w v l) : StrsAt w v l := by
 have ho := h.1
 obtain ⟨_, ⟨rfl, h0⟩ | ⟨g, cap, cur, rfl, _, hg, hc, hm, _, _⟩⟩ := h.1
 · have : l = [] := List.length_eq_zero_iff.1 h0
   subst this
   exact ⟨none, 0, rfl, Nat.zero_le _, fun e => absurd rfl e⟩
 · refine ⟨some ⟨g, 0, none⟩, cap, rfl, Nat.le_trans hc hm, fun _ => ⟨g, 0, rfl, fun i x hx => ?_⟩⟩
   have := ho.cells (g := g) rfl i (.string x) (by rw [List.getElem?_map, hx]; rfl)
   rwa [Addr.add_lit] at this
def hasL (l : List ByteArray) (s : ByteArray) : Bool := l.any fun x => decide (x = s)
theorem hasL_iff {l : List ByteArray} {s : ByteArray} : hasL l s = true ↔ s ∈ l := by
 unfold hasL
 rw [List.any_eq_true]
 constructor
 · rintro ⟨x, hx, h⟩; rw [← of_decide_eq_true h]; exact hx
 · intro h; exact ⟨s, h, decide_eq_true rfl⟩
theorem hasL_no {l : List ByteArray} {s : ByteArray} (h : s ∉ l) : hasL l s = false := by
 cases e : hasL l s with
 | false => rfl
 | true => exact absurd (hasL_iff.1 e) h
theorem has07_any (l : List ByteArray) (s : ByteArray) (v : Value) (w : World) (hv : StrsAt w v l) :
   Calls Tryz.prog 14 #[v, .string s] w fun e w' => e = .returned (.bool (hasL l s)) ∧ Below w.heap.size w w' := by
 obtain ⟨a, cap, rfl, hl, hr⟩ := hv
 have HR := Hi hr
 have hlen : l.length ≤ 9223372036854775807 := by unfold maxLen at hl; exact hl
 clear hr hl
 go_enter Tryz.func14, Tryz.ntmps14
 go_wp2
 go_loop [5] (fun i => ∃ j : Nat, j ≤ l.length ∧ i = .int .i64 j ∧ s ∉ l.take j) (fun i => l.length - (intOf i).toNat)
 case atStart => exact ⟨0, Nat.zero_le _, rfl, by simp⟩
 case round =>
   obtain ⟨j, hj, rfl, hno⟩ := hrel
   have HNO := Hi hno
   clear hno
   by_cases hlt : j < l.length
   · obtain ⟨g, off, rfl, hcell⟩ := HR.out (by intro e; rw [e] at hlt; simp at hlt)
     have g0 := hcell j l[j] (List.getElem?_eq_getElem hlt)
     obtain ⟨x, hx⟩ : ∃ x, l[j] = x := ⟨_, rfl⟩
     rw [hx] at g0
     have htk := List.take_succ_eq_append_getElem hlt
     rw [hx] at htk
     have HTK := Hi htk
     have HX := Hi hx
     have HLT := Hi hlt
     have i1 : (0 : Int) ≤ (j : Int) := by omega
     have i2 : (j : Int) < (l.length : Int) := by omega
     obtain ⟨E, hE⟩ : ∃ E, (x.toList == s.toList) = E := ⟨_, rfl⟩
     have HE := Hi hE
     clear hcell htk hx
     cases E with
     | true =>
       go_wp2
       go_ret
       have hxs : x = s := str_inj.1 (by simpa using HE.out)
       refine ⟨?_, Below.refl _ _⟩
       rw [hasL_iff.2 (by rw [← hxs, ← HX.out]; exact List.getElem_mem _)]
       rfl
     | false =>
       go_wp2
       go_round
       case rel =>
         refine ⟨j + 1, by omega, by go_num, ?_⟩
         rw [HTK.out, List.mem_append, List.mem_singleton]
         rintro (h | h)
         · exact HNO.out h
         · rw [← h] at HE
           have := HE.out
           simp at this
       case measure => simp [intOf]; omega
   · have i2 : ¬ (j : Int) < (l.length : Int) := by omega
     have hno := HNO.out
     rw [List.take_of_length_le (by omega)] at hno
     have HN := Hi (show hasL l s = false from hasL_no hno)
     clear hno
     go_wp2
     go_ret
     exact ⟨by rw [HN.out]; rfl, Below.refl _ _⟩
end Go.Proofs.YtlmdhlckgbgfhaaGreatDoor
namespace Go.Proofs.YtlmdhlckgbgfhaaGreatDoor
open Go.RowKit Go.Shelf Go.Maps Go.Sort
attribute [local go_sem] Oper.semAt_some

def varNames (l : List (Tm × Nat)) : List (List UInt8) := (l.filter fun x => x.1.isVar).map fun x => x.1.name.data.toList
def SVars (t : Tm) (ss : List (List UInt8)) : Prop := ss.Pairwise (· < ·) ∧ ∀ x, x ∈ ss ↔ x ∈ varNames (t.nodes 1)
def VarsPost (t : Tm) (w : World) (e : Ending) (w' : World) : Prop :=
 ∃ (v : Value) (ss : List (List UInt8)), e = .returned v ∧ SVars t ss ∧ w'.ownsRow w.heap.size 9 1 v ss.length (ss.map encStr) ∧ Below w.heap.size w w'

def KeyInv (D : DataW Unit) (names : List (List UInt8)) : Prop := ∃ es, D = .map es ∧ (∀ p ∈ es, ∃ s, p.1 = .string s) ∧ es.Pairwise (fun p q => p.1 ≠ q.1) ∧ (∀ s, (∃ p ∈ es, p.1 = .string s) ↔ s ∈ names) ∧ es.length ≤ names.length
theorem KeyInv.nil : KeyInv (.map []) [] := ⟨[], rfl, by simp, List.Pairwise.nil, by simp, by simp⟩
theorem KeyInv.size {D : DataW Unit} {names : List (List UInt8)} (h : KeyInv D names) : Maps.size D ≤ names.length := by
 obtain ⟨es, rfl, _, _, _, hl⟩ := h; exact hl
theorem KeyInv.put {D : DataW Unit} {names : List (List UInt8)} (h : KeyInv D names) (s : List UInt8) (d : DataW Unit) : KeyInv (D.put (.string s) d) (names ++ [s]) := by
 obtain ⟨es, rfl, hk, hp, hm, hl⟩ := h
 have hperm := WideShapes.insert_perm (Lit.string s, d) (es.filter fun p => !p.1.sameKey (.string s))
 have hne : ∀ q ∈ es.filter (fun p => !p.1.sameKey (.string s)), Lit.string s ≠ q.1 := by
   intro q hq e
   have h2 := (List.mem_filter.1 hq).2
   rw [← e] at h2
   simp [Lit.sameKey] at h2
 refine ⟨_, rfl, ?_, ?_, ?_, by rw [hperm.length_eq]; have := List.length_filter_le (fun p : Lit × DataW Unit => !p.1.sameKey (.string s)) es; simp only [List.length_cons, List.length_append, List.length_nil]; omega⟩
 · intro p hp'
   rcases List.mem_cons.1 (hperm.mem_iff.1 hp') with rfl | h'
   · exact ⟨s, rfl⟩
   · exact hk p (List.mem_filter.1 h').1
 · exact (hperm.pairwise_iff (fun {a b} (h : a.1 ≠ b.1) => h.symm)).2 (List.pairwise_cons.2 ⟨hne, hp.filter _⟩)
 · intro x
   constructor
   · rintro ⟨p, hp', hx⟩
     rcases List.mem_cons.1 (hperm.mem_iff.1 hp') with rfl | h'
     · simp only [Lit.string.injEq] at hx; simp [hx]
     · exact List.mem_append_left _ ((hm x).1 ⟨p, (List.mem_filter.1 h').1, hx⟩)
   · intro hx
     by_cases e : x = s
     · exact ⟨(Lit.string s, d), hperm.mem_iff.2 (List.mem_cons_self ..), by rw [e]⟩
     · have : x ∈ names := by rcases List.mem_append.1 hx with h | h; exact h; exact absurd (List.mem_singleton.1 h) e
       obtain ⟨p, hp', hx'⟩ := (hm x).2 this
       refine ⟨p, hperm.mem_iff.2 (List.mem_cons_of_mem _ (List.mem_filter.2 ⟨hp', ?_⟩)), hx'⟩
       rw [hx']; simp [Lit.sameKey, e]
theorem KeyInv.sorted {D : DataW Unit} {names ss : List (List UInt8)} (h : KeyInv D names) (hs : ss.Perm (strKeys D)) :
   (ss.mergeSort (fun x y => decide (x ≤ y))).Pairwise (· < ·) ∧ ∀ x, x ∈ ss.mergeSort (fun x y => decide (x ≤ y)) ↔ x ∈ names := by
 obtain ⟨es, rfl, hk, hp, hm, _⟩ := h
 have hmem : ∀ x, x ∈ strKeys (.map es : DataW Unit) ↔ x ∈ names := by
   intro x
   rw [← hm x]
   show x ∈ es.map (fun p => strOf p.1) ↔ _
   rw [List.mem_map]
   constructor
   · rintro ⟨p, h1, h2⟩
     obtain ⟨s, e⟩ := hk p h1
     rw [e] at h2
     exact ⟨p, h1, by rw [e, ← h2]; rfl⟩
   · rintro ⟨p, h1, h2⟩
     exact ⟨p, h1, by rw [h2]; rfl⟩
 have hnd : (strKeys (.map es : DataW Unit)).Nodup := by
   show (es.map fun p => strOf p.1).Nodup
   refine List.pairwise_map.2 (hp.imp_of_mem fun {p q} hp' hq' hne e => hne ?_)
   obtain ⟨a, ha⟩ := hk p hp'
   obtain ⟨b, hb⟩ := hk q hq'
   rw [ha, hb] at e ⊢
   exact congrArg _ e
 have tr : ∀ a b c : List UInt8, leB a b = true → leB b c = true → leB a c = true := fun a b c h1 h2 => by simp only [leB, decide_eq_true_eq] at *; exact List.le_trans h1 h2
 have to : ∀ a b : List UInt8, (leB a b || leB b a) = true := fun a b => by simp only [leB, Bool.or_eq_true, decide_eq_true_eq]; exact List.le_total a b
 have hps := List.mergeSort_perm ss leB
 have hnd2 : (ss.mergeSort leB).Nodup := (hps.trans hs).nodup_iff.2 hnd
 refine ⟨?_, fun x => by rw [(hps.trans hs).mem_iff]; exact hmem x⟩
 have h1 := List.pairwise_mergeSort tr to ss
 refine (List.pairwise_and_iff.2 ⟨h1, hnd2⟩).imp ?_
 intro a b ⟨hle, hne⟩
 simp only [leB, decide_eq_true_eq] at hle
 rcases List.le_iff_lt_or_eq.1 hle with h | h
 · exact h
 · exact absurd h hne

def namesOf {n₀ : Nat} {wt : World} (pre : List (NdIn n₀ wt)) : List (List UInt8) := varNames (pre.map NdIn.key)
def VrInv (w : World) (W : World) (n : Nat) (names : List (List UInt8)) : Prop := ∃ D, W.ownsMap Tryz.prog 9 (plainElem Tryz.prog 4) (w.heap.size + 1) n D ∧ KeyInv D names

theorem vars_in (t : Tm) (c0 c1 c2 c3 : Value) (w : World) (ht : IsTm w.heap.size w c0 c1 c2 c3 t) (hdep : t.depth < 4611686018427387900) (hcnt : (t.nodes 1).length ≤ 1000000000) :
   CallsIn Fence.wide 6 Tryz.prog 35 #[.agg #[c0, c1, c2, c3]] w (VarsPost t w) := by
 have hd : Fence.wide.depth = none := rfl
 have hro : Fence.wide.round = none := rfl
 have hmm := @run_makeMap Tryz.prog
 have hown := World.ownsMap_made (H := Unit) (w.alloc (.cells #[c0, c1, c2, c3] 24)) Tryz.prog 9 (plainElem Tryz.prog 4)
 rw [World.size_alloc] at hown
 have HOWN := Hi hown; clear hown
 refine callsIn_of_wp_marks Tryz.func35 rfl trivial ?_ hro
 simp only [Tryz.ntmps35, List.size_toArray, List.length_cons, List.length_nil, Nat.reduceAdd, Nat.reduceSub, Array.replicate_succ, Array.replicate_zero, List.push_toArray, List.append_toArray, List.nil_append, List.cons_append]
 gi_wp2_with (refine ⟨trivial, ?_⟩; gi_at_call 26; refine (subterms_in Fence.wide 5 trivial hro _ _ _ _ _).mono ?_; rintro e w' ⟨rfl, rfl⟩)
 obtain ⟨W0, hW0⟩ : ∃ W0, (((w.alloc (.cells #[c0, c1, c2, c3] 24)).alloc (.map #[] 0)).alloc (.cells #[.map (some (w.heap.size + 1))] 86)).alloc (.cells #[c0, c1, c2, c3] 24) = W0 := ⟨_, rfl⟩
 have hsz : W0.heap.size = w.heap.size + 4 := by rw [← hW0]; simp
 have hb0 : Below w.heap.size w W0 := by rw [← hW0]; exact ((((Below.refl _ w).alloc (Nat.le_refl _) _).alloc (by simp) _).alloc (by simp; omega) _).alloc (by simp; omega) _
 have hbd : Boxed W0 (w.heap.size + 1 + 1) 86 (.map (some (w.heap.size + 1))) := by
   rw [← hW0]; have := Boxed.new ((w.alloc (.cells #[c0, c1, c2, c3] 24)).alloc (.map #[] 0)) 86 (.map (some (w.heap.size + 1))); rw [World.size_alloc, World.size_alloc] at this; exact this.alloc _
 have hbt : W0.heap[w.heap.size + 1 + 1 + 1]? = some (.cells #[c0, c1, c2, c3] 24 (0, 0)) := by
   rw [← hW0]; have := World.alloc_heap_new (((w.alloc (.cells #[c0, c1, c2, c3] 24)).alloc (.map #[] 0)).alloc (.cells #[.map (some (w.heap.size + 1))] 86)) (.cells #[c0, c1, c2, c3] 24)
   rw [World.size_alloc, World.size_alloc, World.size_alloc] at this; exact this
 have hvi : VrInv w W0 0 [] := by
   rw [← hW0]
   exact ⟨_, (HOWN.out.kept (World.grownBy_alloc _ (.cells #[.map (some (w.heap.size + 1))] 86) none) (by simp)).kept (World.grownBy_alloc _ (.cells #[c0, c1, c2, c3] 24) none) (by simp), KeyInv.nil⟩
 rw [hW0]
 clear hW0 HOWN
 refine wpIn_rangeFunc_ownH hro (by omega) (gf := 50) (lb := #[.pointer (some ⟨w.heap.size + 1 + 1 + 1, 0, none⟩)]) rfl trivial (enters_of Tryz.func50 (by kernel_rfl) rfl)
   (subterms_stops Fence.wide hd 5 trivial trivial hro (w.heap.size + 1 + 1 + 1) w.heap.size w W0 t c0 c1 c2 c3 (by omega) hb0 ht hdep hbt) Kept.trans
   (fun W l o o' hl h hc _ => Kept.putObj o' (by omega) (by have := (gL h); omega) h hc) bR (fun _ => rfl)
   (fun pre W => Boxed W (w.heap.size + 1 + 1) 86 (.map (some (w.heap.size + 1))) ∧ VrInv w W pre.length (namesOf pre) ∧ Below w.heap.size w W ∧ W0.heap.size ≤ W.heap.size)
   (fun _ _ _ => False)
   (OwnFrom.and (Own.from (boxed_own _ _ fun _ => .map (some (w.heap.size + 1))) _) (OwnFrom.and (fun pre X Y row hs hg hr => by obtain ⟨D, ho, hk⟩ := hs; exact ⟨D, ho.kept hg (fun e => by have := (hr _ e.symm).1; omega), hk⟩)
     (OwnFrom.and (ownFrom_below (Nat.le_refl _) (by omega)) (fun _ _ _ _ hs hg _ => Nat.le_trans hs hg.size))))
   (fun _ _ _ _ _ hs _ _ => hs) ⟨hbd, hvi, hb0, Nat.le_refl _⟩
   (fun x a' W => ∃ Bx, W0.heap.size ≤ Bx ∧ W.heap[Bx]? = some (.cells #[x.1.c0, x.1.c1, x.1.c2, x.1.c3, .int .i64 x.1.l] 62 (0, 0)) ∧
     a' = { tmps := #[Value.agg #[c0, c1, c2, c3], Value.pointer (some { block := w.heap.size, off := 0 }), .slice none 0 0, Value.pointer (some { block := w.heap.size + 1 + 1, off := 0 }),
         Value.pointer (some { block := Bx, off := 0 }), .map (some (w.heap.size + 1)), Value.agg #[c0, c1, c2, c3],
         Value.func (Fn.func 50) #[] #[Value.pointer (some { block := w.heap.size + 1 + 1 + 1, off := 0 })], x.val, undef, undef, undef, undef, undef, undef, undef, undef, undef, undef, undef], defers := [] })
   (fun x a' s X Y row hs hg hr => by
     obtain ⟨Bx, h1, h2, h3⟩ := hs
     exact ⟨Bx, h1, cells_own Bx 62 (fun _ : Unit => #[x.1.c0, x.1.c1, x.1.c2, x.1.c3, .int .i64 x.1.l]) () X Y row h2 hg (fun r e => (hr r e).2), h3⟩) ?assign ?body ?done ?stop
 case assign =>
   rintro l pre ⟨⟨d0, d1, d2, d3, ⟨k', n', s', as'⟩, lv⟩, hx, hlv⟩ W K ⟨hi1, ⟨D, hi4, hi5⟩, hi2, hiz⟩ hK
   have hx0 := hx
   simp only [IsTm] at hx
   obtain ⟨rfl, _, rfl, _, rfl, _, a', cap', rfl, _, _⟩ := hx
   have hK' := hK _ _ ((KeepsOthers.alloc _ _).from _) ((Kept.refl _ _ W).alloc (by omega) (.cells #[.int .u8 k', .int .i64 n', .string s', .slice a' as'.length cap', .int .i64 lv] 62)) ⟨hi1.alloc _, ⟨D, hi4.kept (World.grownBy_alloc _ _ none) (by simp), hi5⟩, hi2.alloc (by omega) _, by simp; omega⟩ ⟨W.heap.size, hiz, World.alloc_heap_new _ _, rfl⟩
   clear hK
   have HK := Hi hK'; clear hK' hi4 hi5
   simp only [NdIn.val]
   gi_wp2
   exact HK.out
 case body =>
   rintro l pre ⟨⟨d0, d1, d2, d3, ⟨k', n', s', as'⟩, lv⟩, hx, hlv⟩ a' W hl hrec ⟨hi1, ⟨D, hi4, hi5⟩, hi2, hiz⟩ ⟨Bx, hBx, hbx, rfl⟩ hlt
   have hx0 := hx
   simp only [IsTm] at hx
   obtain ⟨rfl, _, rfl, _, rfl, hs', a', cap', rfl, _, _⟩ := hx
   simp only at hbx hlv
   have q0 := cells_at hbx 0 _ rfl
   have q2 := cells_at hbx 2 _ rfl
   have qd := hi1.cell
   have HI4 := Hi hi4; clear hi4
   have HI5 := Hi hi5; clear hi5
   have HS := Hi hs'
   have hnm : namesOf (pre ++ [(⟨⟨.int .u8 k', .int .i64 n', .string s', .slice a' as'.length cap', .mk k' n' s' as', lv⟩, hx0, hlv⟩ : NdIn w.heap.size w)]) = namesOf pre ++ (if decide (k' = 3) then [s'.data.toList] else []) := by
     unfold namesOf varNames
     rw [List.map_append, List.filter_append, List.map_append]
     congr 1
     by_cases h : k' = 3
     · simp [NdIn.key, Tm.isVar, Tm.kind, Tm.name, h]
     · simp [NdIn.key, Tm.isVar, Tm.kind, h]
   have HNM := Hi hnm; clear hnm
   by_cases hk : k' = 3
   · have hk' : (k' == 3) = true := by simpa using hk
     have HKK := Hi hk; clear hk
     gi_wp2_with (gi_at_mapUpdate; refine wpListIn_mapUpdate_own _ rfl _ _ _ 86 rfl 9 4 (Maps.string_keyed Tryz.underlying9) Tryz.underlying86 (plainElem Tryz.prog 4) (w.heap.size + 1) pre.length _ rfl HI4.out (by unfold maxLen; omega) _ _ _ rfl rfl (WideMaps.keyOf_string_mk Tryz.underlying9 HS.out) _ [] (plainElem_bool Tryz.underlying4 true) ?_; intro w1 hown1 hgrow1)
     refine ⟨KeepsFrom.of_grownBy hgrow1 (fun j e => by cases e; omega), ⟨(Below.refl _ W).grown hgrow1 (by omega) (fun j e => by cases e; omega), fun b hb cs t f hc => (hgrow1.block b (gL hc) (fun e => by cases e; omega)).trans hc⟩,
       hi1.kept hgrow1 (by simp), ⟨_, by simpa using hown1, ?_⟩, hi2.grown hgrow1 (by omega) (fun j e => by cases e; omega), by have := hgrow1.size; omega⟩
     rw [HNM.out, decide_eq_true HKK.out]
     exact HI5.out.put _ _
   · have hk' : (k' == 3) = false := by simpa using hk
     have HKK := Hi hk; clear hk
     gi_wp2
     refine ⟨(KeepsOthers.refl _).from _, Kept.refl _ _ _, hi1, ⟨D, HI4.out.mono (by simp), ?_⟩, hi2, by omega⟩
     rw [HNM.out, decide_eq_false HKK.out]
     simpa using HI5.out
 case done =>
   rintro D ys W hD hys ⟨hbx, ⟨Dm, hown, hkey⟩, hB, hz⟩ hK
   have hc := hbx.cell
   have hlen : ys.length = (t.nodes 1).length := by rw [← hys, List.length_map]
   have hnm : namesOf ys = varNames (t.nodes 1) := by unfold namesOf; rw [hys]
   rw [hnm] at hkey
   have hszD := hkey.size
   have hvl : (varNames (t.nodes 1)).length ≤ (t.nodes 1).length := by unfold varNames; rw [List.length_map]; exact List.length_filter_le _ _
   have HOWN := Hi hown; clear hown
   have HKEY := Hi hkey; clear hkey
   have HM1 : Hid (Maps.size Dm ≤ maxLen) := by show _ ≤ _; unfold maxLen; omega
   have HM2 : Hid (Maps.size Dm * 16 ≤ 140737488355328) := by show _ ≤ _; omega
   clear hnm hlen hszD hvl hys
   have HKD := Hi hK
   gi_wp2_with (first
     | (refine ⟨trivial, ?_⟩; gi_at_call 63; refine (Tryz.maps_Keys_63 _ _).mono ?_; rintro e w' ⟨rfl, rfl⟩)
     | (refine ⟨trivial, ?_⟩; gi_at_call 62; refine (Tryz.slices_Sorted_keys_62_63 (w.heap.size + 1) ys.length Dm (plainElem Tryz.prog 4) W HOWN.out HM1.out HM2.out).mono ?_; rintro e w' ⟨v, ss, rfl, hS, hrow, hnil, hb⟩))
   simp only [World.size_alloc] at hrow hb
   have hKD := (hb.block D (by have := (gL hK); omega)).trans ((Below.heap_alloc W _ D (gL hK)).trans hK)
   refine ⟨by simp, .inl ⟨_, _, rfl, run_takeDeferred hKD, ?_⟩⟩
   refine ⟨_, results_tmp rfl _ _ _, ?_⟩
   have hso := HKEY.out.sorted hS
   refine ⟨v, ss.mergeSort (fun x y => decide (x ≤ y)), rfl, ⟨hso.1, hso.2⟩, ?_, ?_⟩
   · have h1 := (ownsRow_putObj hrow (.deferred none) hKD rfl).mono (base' := w.heap.size) (by have := hB.size; omega)
     rwa [← List.length_mergeSort (le := fun x y => decide (x ≤ y)) ss] at h1
   · have hBa : Below w.heap.size w (W.alloc (.cells #[.map (some (w.heap.size + 1))] 86)) := hB.alloc (by have := hB.size; omega) _
     exact (hBa.trans (hb.mono (by have := hB.size; omega))).trans (belowK_b (w := w) (Nat.le_refl _) w' D _ _ (by omega) hKD rfl rfl)
 case stop =>
   rintro D c pre W _ _ h _
   exact h.elim

theorem vars_any (t : Tm) (c0 c1 c2 c3 : Value) (w : World) (ht : IsTm w.heap.size w c0 c1 c2 c3 t) (hdep : t.depth < 4611686018427387900) (hcnt : (t.nodes 1).length ≤ 1000000000) :
   Calls Tryz.prog 35 #[.agg #[c0, c1, c2, c3]] w (VarsPost t w) :=
 callsIn_wide.1 (vars_in t c0 c1 c2 c3 w ht hdep hcnt)
end Go.Proofs.YtlmdhlckgbgfhaaGreatDoor
namespace Go.Proofs.YtlmdhlckgbgfhaaGreatDoor
open Go.RowKit Go.Shelf
attribute [local go_sem] Oper.semAt_some

def sumB : Bd → Nat
 | [] => 0
 | x :: r => x.2.count + sumB r
theorem sumB_append : ∀ b c : Bd, sumB (b ++ c) = sumB b + sumB c
 | [], c => by simp [sumB]
 | x :: r, c => by rw [List.cons_append, sumB, sumB, sumB_append r c]; omega
theorem sumB_take {b : Bd} {j : Nat} (h : j < b.length) : sumB (b.take (j + 1)) = sumB (b.take j) + b[j].2.count := by
 rw [List.take_succ_eq_append_getElem h, sumB_append]
 simp [sumB]
theorem sumB_mem : ∀ {b : Bd} {x : ByteArray × Tm}, x ∈ b → x.2.count ≤ sumB b
 | y :: r, x, h => by
   rw [sumB]
   rcases List.mem_cons.1 h with rfl | h
   · omega
   · have := sumB_mem h
     omega
def SmallPost (us : List Tm) (b : Bd) (w : World) (e : Ending) (w' : World) : Prop := Below w.heap.size w w' ∧ ∃ r, e = .returned (.bool r) ∧ (r = true → Tm.countL us + sumB b ≤ 150)
theorem small07_any (b : Bd) (us : List Tm) (bv : Value) (a : Option Addr) (cap : Nat) (w : World) (hb : BdV w bv b) (hl : us.length ≤ maxLen) (hargs : us ≠ [] → ∃ g off, a = some ⟨g, off, none⟩ ∧ g < w.heap.size ∧ IsTms w.heap.size w g off us) :
   Calls Tryz.prog 6 #[bv, .slice a us.length cap] w (SmallPost us b w) := by
 obtain ⟨va, vc, rfl, hl1, hl2, hr⟩ := hb
 have hlb : b.length ≤ maxLen := Nat.le_trans hl1 hl2
 unfold maxLen at hlb
 have HR := Hi hr
 have HS := Hi (sizeTerms_any us a cap 150 w hl (by decide) (by decide) hargs)
 obtain ⟨n0, hn0⟩ : ∃ n0, sizeL us 0 150 = n0 := ⟨_, rfl⟩
 have hbd := sizeL_bounds us 0 150
 have hwh := sizeL_whole us 0 150
 rw [hn0] at HS hbd hwh
 obtain ⟨lu, hlu⟩ : ∃ l, us.length = l := ⟨_, rfl⟩
 rw [hlu] at HS ⊢
 have hn1 : 0 ≤ n0 ∧ n0 ≤ 151 := by omega
 have HW := Hi (show n0 ≤ 150 → n0 = (Tm.countL us : Int) by intro h; have := hwh h; omega)
 clear hr hl1 hl2 hl hargs hn0 hbd hwh hlu
 go_enter Tryz.func6, Tryz.ntmps6
 go_wp2_with (go_at_call 23; refine HS.out.mono ?_; rintro e w1 ⟨rfl, hb1⟩)
 have HB1 := Hi hb1
 clear hb1 HS
 go_loopw [5, 6] (fun s i wr => ∃ (j : Nat) (n : Int), j ≤ b.length ∧ s = .int .i64 n ∧ i = .int .i64 j ∧ (0 ≤ n ∧ n ≤ 302) ∧ (n ≤ 150 → n = (Tm.countL us : Int) + (sumB (b.take j) : Int)) ∧ Below w.heap.size w wr) (fun _ i _ => b.length - (intOf i).toNat)
 case atStart => exact ⟨0, n0, Nat.zero_le _, rfl, rfl, by omega, fun h => by have := HW.out h; simp only [List.take_zero, sumB]; omega, HB1.out⟩
 case round =>
   obtain ⟨j, n, hj, rfl, rfl, hn, hs, hB⟩ := hrel
   have HN := Hi hs
   have HB := Hi hB
   clear hs hB
   have i1 : (0 : Int) ≤ (j : Int) := by omega
   by_cases hlt : j < b.length
   · have i2 : (j : Int) < (b.length : Int) := by omega
     by_cases h150 : n ≤ 150
     · obtain ⟨g, off, rfl, hg, hI⟩ := HR.out (by intro e; rw [e] at hlt; simp at hlt)
       obtain ⟨_, _, c0, c1, c2, c3, y1, y2, y3, y4, hT⟩ := hI.at j hlt
       have z1 := (HB.out.cell (p := ⟨g, off + j * 5 + 1, none⟩) hg).trans y1
       have z2 := (HB.out.cell (p := ⟨g, off + j * 5 + 2, none⟩) hg).trans y2
       have z3 := (HB.out.cell (p := ⟨g, off + j * 5 + 3, none⟩) hg).trans y3
       have z4 := (HB.out.cell (p := ⟨g, off + j * 5 + 4, none⟩) hg).trans y4
       have hst := sizeTerm_any b[j].2 c0 c1 c2 c3 150 wr ((hT.below HB.out).mono HB.out.size) (by decide) (by decide)
       obtain ⟨sz, hsz⟩ : ∃ sz, sizeT b[j].2 150 = sz := ⟨_, rfl⟩
       have hzb := sizeT_bounds b[j].2 150
       have hzw := sizeT_whole b[j].2 150
       have htk := sumB_take hlt
       rw [hsz] at hst hzb hzw
       have HST := Hi hst
       have HNN := Hi (show n + sz ≤ 150 → n + sz = (Tm.countL us : Int) + (sumB (b.take (j + 1)) : Int) by
         intro h
         have h1 := HN.out h150
         have h2 := hzw (by omega)
         rw [htk]
         omega)
       have w1' : IntKind.i64.wrap (n + sz) = n + sz := IntWalk.i64_in _ (by omega)
       have hzz : 0 ≤ n + sz ∧ n + sz ≤ 302 := by omega
       clear hI y1 y2 y3 y4 hT hst hsz hzb hzw htk
       go_wp2_with (go_at_call 24; refine HST.out.mono ?_; rintro e w2 ⟨rfl, hb2⟩)
       have HB2 := Hi (HB.out.trans (hb2.mono HB.out.size))
       clear hb2
       go_roundw
       case rel => exact ⟨j + 1, n + sz, by omega, rfl, by go_num, hzz, HNN.out, HB2.out⟩
       case measure => simp [intOf]; omega
     · go_wp2
       go_ret
       exact ⟨HB.out, false, rfl, fun h => by cases h⟩
   · have i2 : ¬ (j : Int) < (b.length : Int) := by omega
     have HE := Hi (show n ≤ 150 → n = (Tm.countL us : Int) + (sumB b : Int) by
       have := HN.out
       rwa [List.take_of_length_le (by omega)] at this)
     by_cases h150 : n ≤ 150
     · go_wp2
       go_ret
       exact ⟨HB.out, true, rfl, fun _ => by have := HE.out h150; omega⟩
     · go_wp2
       go_ret
       exact ⟨HB.out, false, rfl, fun h => by cases h⟩
end Go.Proofs.YtlmdhlckgbgfhaaGreatDoor
namespace Go.Proofs.YtlmdhlckgbgfhaaGreatDoor
open Go.ChangeShapes Go.WideShapes Go.ChangeAt Go.RowKit

theorem laid_own : ownKnob Tryz.prog.godebug = none := by kernel_rfl
theorem post_of_below {H : Type} {enc : TypeId × Value → H} {P : Program} {f : Func} {s : ChangeSpec} {apart fresh handsOn again : Bool} {W W' : World} {args : Array Value} {v : Value} {ds gs : List (DataW H)} {before pa pv : List MemPlace}
   (hW : DataW.Whole enc P f.params.toList s.vars apart W args.toList ds gs before)
   (hres : ∀ (b : Nat) (sp : Nat → Bool) (hd : Bool), DataW.TrodAll enc P W' b sp hd f.resultTypes.toList (v.resultList f.resultTypes.size) (s.fn H (ds ++ gs)).results [])
   (hargs : ∀ sp : Nat → Bool, (∀ p ∈ before, sp p.block = true) → DataW.TrodAll enc P W' 0 sp true f.params.toList args.toList (s.fn H (ds ++ gs)).args pa)
   (hvars : ∀ sp : Nat → Bool, (∀ p ∈ before, sp p.block = true) → DataW.TrodVars enc P W' sp s.vars (s.fn H (ds ++ gs)).vars pv)
   (hps : before = pa ++ pv) (hB : Below W.heap.size W W')
   (hok : ∀ (j : Nat) (t : TypeId) (r : Value), f.resultTypes[j]? = some t → (v.resultList f.resultTypes.size)[j]? = some r → Value.okWide P W' .any 0 t r) :
   s.post enc P f apart fresh handsOn again W args v W' := by
 have hold : ∀ p ∈ before, (fun b => decide (b < W.heap.size)) p.block = true := fun p hp => by simpa using hW.lt p hp
 have hlt : ∀ p ∈ before, p.block < W.heap.size := fun p hp => hW.lt p hp
 refine ⟨ds, gs, before, [], pa, pv, hW, hres _ _ _, hargs _ hold, hvars _ hold, World.keptBut_mono (fun p hp => ⟨hp, ?_⟩) (hB.frame (· ∈ before)), fun _ => ?_⟩
 · rw [hps, List.mem_append] at hp
   exact Or.inr hp
 · obtain ⟨_, _, _, _, _, hz, hn⟩ := hW
   refine ⟨hok, _, _, ([] ++ pa) ++ pv, ⟨[] ++ pa, pv, trodAll_append (hargs _ (fun _ _ => rfl)) (hres _ _ _), hvars _ (fun _ _ => rfl), rfl, ?_, ?_⟩, ?_⟩
   · intro b off hp
     have hp' : MemPlace.cell b off ∈ before := by rw [hps]; simpa using hp
     rw [hB.frozen (p := ⟨b, off, none⟩) (hlt _ hp')]
     exact hz b off hp'
   · intro ha
     have := hn ha
     rw [hps] at this
     simpa using this
   · intro p hp _
     rw [hps]
     simpa using hp
end Go.Proofs.YtlmdhlckgbgfhaaGreatDoor
namespace Go.Proofs.YtlmdhlckgbgfhaaGreatDoor
open Go.RowKit Go.ChangeShapes

theorem addr_add (a : Addr) (n : Nat) (h : a.spot = none) : a.add n = ⟨a.block, a.off + n, none⟩ := by
 unfold Addr.add
 obtain ⟨b, o, s⟩ := a
 subst h
 by_cases hn : n = 0 <;> simp [hn]
theorem cell_spot {w : World} {a : Addr} {v : Value} (h : w.cell? a = some v) : a.spot = none := by
 unfold World.cell? at h
 cases hs : a.spot with
 | none => rfl
 | some s => simp [hs] at h; split at h <;> simp at h

theorem tms_of {w : World} {b off len : Nat} (hel : ∀ i, i < len → ∃ c0 c1 c2 c3 t, w.cell? ⟨b, off + i * 4, none⟩ = some c0 ∧ w.cell? ⟨b, off + i * 4 + 1, none⟩ = some c1 ∧ w.cell? ⟨b, off + i * 4 + 2, none⟩ = some c2 ∧ w.cell? ⟨b, off + i * 4 + 3, none⟩ = some c3 ∧ IsTm w.heap.size w c0 c1 c2 c3 t) :
   ∀ k, k ≤ len → ∃ ts : List Tm, ts.length = k ∧ IsTms w.heap.size w b (off + (len - k) * 4) ts := by
 intro k
 induction k with
 | zero => intro _; exact ⟨[], rfl, by simp only [IsTms]⟩
 | succ k ih =>
   intro hk
   obtain ⟨ts, hl, ht⟩ := ih (by omega)
   obtain ⟨c0, c1, c2, c3, t, h0, h1, h2, h3, hi⟩ := hel (len - (k + 1)) (by omega)
   refine ⟨t :: ts, by simp [hl], ?_⟩
   simp only [IsTms]
   refine ⟨c0, c1, c2, c3, h0, h1, h2, h3, hi, ?_⟩
   have e : off + (len - (k + 1)) * 4 + 4 = off + (len - k) * 4 := by omega
   rw [e]
   exact ht

theorem isTm_of_trod {H : Type} {enc : TypeId × Value → H} {w : World} {sp : Nat → Bool} {held : Bool} (n : Nat) : ∀ (cs : List Value) (x : DataW H × List MemPlace),
   DataW.trod enc Tryz.prog w 0 sp held n 24 cs = some x → ∃ c0 c1 c2 c3 t, cs = [c0, c1, c2, c3] ∧ IsTm w.heap.size w c0 c1 c2 c3 t := by
 induction n using Nat.strongRecOn with
 | ind n ih =>
   intro cs x h
   obtain ⟨xs, m, rfl, rfl, hl, hlen, hf⟩ := DataW.trod_struct Tryz.underlying24 h
   rw [show Tryz.prog.cellsOf 24 = 4 by kernel_rfl] at hl
   match cs, hl, xs, hlen with
   | [c0, c1, c2, c3], _, [y0, y1, y2, y3], _ =>
     have g0 : DataW.trod enc Tryz.prog w 0 sp held m 5 (List.take (Tryz.prog.cellsOf 5) (List.drop 0 [c0, c1, c2, c3])) = some y0 := hf 0 _ rfl
     have g1 : DataW.trod enc Tryz.prog w 0 sp held m 3 (List.take (Tryz.prog.cellsOf 3) (List.drop 1 [c0, c1, c2, c3])) = some y1 := hf 1 _ rfl
     have g2 : DataW.trod enc Tryz.prog w 0 sp held m 9 (List.take (Tryz.prog.cellsOf 9) (List.drop 2 [c0, c1, c2, c3])) = some y2 := hf 2 _ rfl
     have g3 : DataW.trod enc Tryz.prog w 0 sp held m 22 (List.take (Tryz.prog.cellsOf 22) (List.drop 3 [c0, c1, c2, c3])) = some y3 := hf 3 _ rfl
     simp only [show Tryz.prog.cellsOf 5 = 1 by kernel_rfl, show Tryz.prog.cellsOf 3 = 1 by kernel_rfl, show Tryz.prog.cellsOf 9 = 1 by kernel_rfl, show Tryz.prog.cellsOf 22 = 1 by kernel_rfl, List.drop, List.take] at g0 g1 g2 g3
     obtain ⟨k, e0, _, hk⟩ := DataW.trod_int Tryz.underlying5 g0
     obtain ⟨v, e1, _, hv⟩ := DataW.trod_int Tryz.underlying3 g1
     obtain ⟨s, e2, _, hs⟩ := DataW.trod_string Tryz.underlying9 g2
     simp only [List.cons.injEq, and_true] at e0 e1 e2
     subst e0 e1 e2
     have hk' : 0 ≤ k ∧ k ≤ 255 := by
       unfold Lit.wf at hk
       simpa [Bool.and_eq_true, decide_eq_true_eq, IntKind.min, IntKind.max, IntKind.signed, IntKind.bits] using hk
     rcases DataW.trod_slice Tryz.underlying22 g3 with ⟨e3, _⟩ | ⟨a, len, cap, elems, rest, n', rfl, e3, _, hb, hlc, hcm, hel, hat, _, _⟩
     · simp only [List.cons.injEq, and_true] at e3
       subst e3
       refine ⟨_, _, _, _, .mk k v s [], rfl, ?_⟩
       unfold IsTm
       exact ⟨rfl, hk', rfl, hv, rfl, hs, none, 0, rfl, by simp, fun h => absurd rfl h⟩
     · simp only [List.cons.injEq, and_true] at e3
       subst e3
       have each : ∀ i, i < len → a.spot = none ∧ a.block < w.heap.size ∧ ∃ c0 c1 c2 c3 t, w.cell? ⟨a.block, a.off + i * 4, none⟩ = some c0 ∧ w.cell? ⟨a.block, a.off + i * 4 + 1, none⟩ = some c1 ∧ w.cell? ⟨a.block, a.off + i * 4 + 2, none⟩ = some c2 ∧
           w.cell? ⟨a.block, a.off + i * 4 + 3, none⟩ = some c3 ∧ IsTm w.heap.size w c0 c1 c2 c3 t := by
         intro i hi
         have h1 := hat i hi
         have h0 := hat 0 (by omega)
         rw [show Tryz.prog.cellsOf 24 = 4 by kernel_rfl] at h1 h0
         rw [List.getElem?_eq_getElem (by omega)] at h1 h0
         obtain ⟨cs0, hc0, _⟩ := Option.bind_eq_some_iff.1 h0
         obtain ⟨cs1, hc1, ht1⟩ := Option.bind_eq_some_iff.1 h1
         obtain ⟨c0, c1, c2, c3, t, rfl, hi1⟩ := ih n' (by omega) _ _ ht1
         obtain ⟨_, hl0, hcell0⟩ := World.cells?_some hc0
         obtain ⟨_, hl1, hcell1⟩ := World.cells?_some hc1
         have hsp : a.spot = none := by
           have := hcell0 0 (by omega)
           rw [List.getElem?_eq_getElem (by omega)] at this
           have := cell_spot this
           simpa [Addr.add] using this
         have hblk : a.block < w.heap.size := by
           have := World.cells?_block hc0 (by omega)
           rwa [addr_add _ _ hsp] at this
         rw [addr_add _ _ hsp] at hcell1
         refine ⟨hsp, hblk, c0, c1, c2, c3, t, ?_, ?_, ?_, ?_, hi1⟩
         · simpa [Addr.add] using hcell1 0 (by omega)
         · simpa [Addr.add] using hcell1 1 (by omega)
         · simpa [Addr.add] using hcell1 2 (by omega)
         · simpa [Addr.add] using hcell1 3 (by omega)
       obtain ⟨ts, htl, hts⟩ := tms_of (fun i hi => (each i hi).2.2) len (Nat.le_refl _)
       subst htl
       refine ⟨_, _, _, _, .mk k v s ts, rfl, ?_⟩
       unfold IsTm
       refine ⟨rfl, hk', rfl, hv, rfl, hs, some a, cap, rfl, by omega, fun hne => ?_⟩
       have hpos : 0 < ts.length := by cases ts with
         | nil => exact absurd rfl hne
         | cons _ _ => simp
       obtain ⟨hsp, hblk, _⟩ := each 0 hpos
       obtain ⟨b, o, sp'⟩ := a
       simp only at hsp
       subst hsp
       refine ⟨b, o, rfl, hblk, ?_⟩
       simpa using hts

theorem open_term {H : Type} {enc : TypeId × Value → H} {w : World} {r : Reach} {b : Nat} {sp : Nat → Bool} {held : Bool} {v : Value} {d : DataW H} {ps : List MemPlace} (hv : Value.okWide Tryz.prog w r b 24 v)
   (h : DataW.Trod enc Tryz.prog w 0 sp held 24 v d ps) : ∃ c0 c1 c2 c3 t, v = .agg #[c0, c1, c2, c3] ∧ IsTm w.heap.size w c0 c1 c2 c3 t := by
 obtain ⟨cs, rfl, _⟩ := Go.WideShapes.okWide_struct Tryz.underlying24 hv
 obtain ⟨n, hn⟩ := h
 obtain ⟨c0, c1, c2, c3, t, hcs, ht⟩ := isTm_of_trod n _ _ hn
 refine ⟨c0, c1, c2, c3, t, ?_, ht⟩
 have e : cs.toList = [c0, c1, c2, c3] := hcs
 rw [show cs = #[c0, c1, c2, c3] from Array.toList_inj.1 e]
theorem shut_term {H : Type} {enc : TypeId × Value → H} {W W' : World} {sp : Nat → Bool} {v : Value} {d : DataW H} {ps : List MemPlace} (h : DataW.Trod enc Tryz.prog W 0 (fun _ => true) true 24 v d ps) (hb : Below W.heap.size W W')
   (hs : ∀ p ∈ ps, sp p.block = true) : DataW.Trod enc Tryz.prog W' 0 sp true 24 v d ps := by
 have hlt : ∀ p ∈ ps, p.block < W.heap.size := by
   obtain ⟨n, hn⟩ := h
   exact DataW.trod_lt n _ _ _ hn
 exact WideElems.Trod_stays (by kernel_rfl) (by kernel_rfl) (of_decide_eq_true (by kernel_rfl)) h (fun p hp => hb.same (hlt p hp)) hs
end Go.Proofs.YtlmdhlckgbgfhaaGreatDoor
namespace Go.Proofs.YtlmdhlckgbgfhaaGreatDoor
open Go.RowKit Go.ChangeShapes

theorem isBind_of_trod {H : Type} {enc : TypeId × Value → H} {w : World} {sp : Nat → Bool} {held : Bool} (n : Nat) (cs : List Value) (x : DataW H × List MemPlace)
   (h : DataW.trod enc Tryz.prog w 0 sp held n 40 cs = some x) : ∃ s c0 c1 c2 c3 t, cs = [.string s, c0, c1, c2, c3] ∧ s.size ≤ maxLen ∧ IsTm w.heap.size w c0 c1 c2 c3 t := by
 obtain ⟨xs, m, rfl, rfl, hl, hlen, hf⟩ := DataW.trod_struct Tryz.underlying40 h
 rw [show Tryz.prog.cellsOf 40 = 5 by kernel_rfl] at hl
 match cs, hl, xs, hlen with
 | [c, c0, c1, c2, c3], _, [y0, y1], _ =>
   have g0 : DataW.trod enc Tryz.prog w 0 sp held m 9 (List.take (Tryz.prog.cellsOf 9) (List.drop 0 [c, c0, c1, c2, c3])) = some y0 := hf 0 _ rfl
   have g1 : DataW.trod enc Tryz.prog w 0 sp held m 24 (List.take (Tryz.prog.cellsOf 24) (List.drop 1 [c, c0, c1, c2, c3])) = some y1 := hf 1 _ rfl
   simp only [show Tryz.prog.cellsOf 9 = 1 by kernel_rfl, show Tryz.prog.cellsOf 24 = 4 by kernel_rfl, List.drop, List.take] at g0 g1
   obtain ⟨s, e2, _, hs⟩ := DataW.trod_string Tryz.underlying9 g0
   simp only [List.cons.injEq, and_true] at e2
   subst e2
   obtain ⟨x0, x1, x2, x3, t, e, ht⟩ := isTm_of_trod _ _ _ g1
   simp only [List.cons.injEq, and_true] at e
   obtain ⟨rfl, rfl, rfl, rfl⟩ := e
   exact ⟨s, _, _, _, _, t, rfl, hs, ht⟩
theorem bs_of {w : World} {b off len : Nat} (hel : ∀ i, i < len → ∃ s c0 c1 c2 c3 t, w.cell? ⟨b, off + i * 5, none⟩ = some (.string s) ∧ w.cell? ⟨b, off + i * 5 + 1, none⟩ = some c0 ∧ w.cell? ⟨b, off + i * 5 + 2, none⟩ = some c1 ∧ w.cell? ⟨b, off + i * 5 + 3, none⟩ = some c2 ∧ w.cell? ⟨b, off + i * 5 + 4, none⟩ = some c3 ∧ s.size ≤ maxLen ∧ IsTm w.heap.size w c0 c1 c2 c3 t) :
   ∀ k, k ≤ len → ∃ ts : Bd, ts.length = k ∧ IsBs w.heap.size w b (off + (len - k) * 5) ts := by
 intro k
 induction k with
 | zero => intro _; exact ⟨[], rfl, by simp only [IsBs]⟩
 | succ k ih =>
   intro hk
   obtain ⟨ts, hl, ht⟩ := ih (by omega)
   obtain ⟨s, c0, c1, c2, c3, t, h, h0, h1, h2, h3, hs, hi⟩ := hel (len - (k + 1)) (by omega)
   refine ⟨(s, t) :: ts, by simp [hl], ?_⟩
   simp only [IsBs]
   refine ⟨hs, h, ⟨c0, c1, c2, c3, h0, h1, h2, h3, hi⟩, ?_⟩
   have e : off + (len - (k + 1)) * 5 + 5 = off + (len - k) * 5 := by omega
   rw [e]
   exact ht
theorem open_bd {H : Type} {enc : TypeId × Value → H} {w : World} {r : Reach} {b : Nat} {sp : Nat → Bool} {held : Bool} {v : Value} {d : DataW H} {ps : List MemPlace} (hv : Value.okWide Tryz.prog w r b 26 v)
   (h : DataW.Trod enc Tryz.prog w 0 sp held 26 v d ps) : ∃ us : Bd, BdV w v us := by
 obtain ⟨a0, len0, cap0, rfl⟩ := Go.WideShapes.okWide_slice Tryz.underlying26 hv
 obtain ⟨n, hn⟩ := h
 rcases DataW.trod_slice Tryz.underlying26 hn with ⟨e3, _⟩ | ⟨a, len, cap, elems, rest, n', rfl, e3, _, hb, hlc, hcm, hel, hat, _, _⟩
 · have e : Value.slice a0 len0 cap0 = .slice none 0 0 := by simpa [Value.cells] using e3
   rw [e]
   exact ⟨[], none, 0, rfl, Nat.le_refl _, Nat.zero_le _, fun h => absurd rfl h⟩
 · have e : Value.slice a0 len0 cap0 = .slice (some a) len cap := by simpa [Value.cells] using e3
   rw [e]
   have each : ∀ i, i < len → a.spot = none ∧ a.block < w.heap.size ∧ ∃ s c0 c1 c2 c3 t, w.cell? ⟨a.block, a.off + i * 5, none⟩ = some (.string s) ∧ w.cell? ⟨a.block, a.off + i * 5 + 1, none⟩ = some c0 ∧ w.cell? ⟨a.block, a.off + i * 5 + 2, none⟩ = some c1 ∧
       w.cell? ⟨a.block, a.off + i * 5 + 3, none⟩ = some c2 ∧ w.cell? ⟨a.block, a.off + i * 5 + 4, none⟩ = some c3 ∧ s.size ≤ maxLen ∧ IsTm w.heap.size w c0 c1 c2 c3 t := by
     intro i hi
     have h1 := hat i hi
     have h0 := hat 0 (by omega)
     rw [show Tryz.prog.cellsOf 40 = 5 by kernel_rfl] at h1 h0
     rw [List.getElem?_eq_getElem (by omega)] at h1 h0
     obtain ⟨cs0, hc0, _⟩ := Option.bind_eq_some_iff.1 h0
     obtain ⟨cs1, hc1, ht1⟩ := Option.bind_eq_some_iff.1 h1
     obtain ⟨s, c0, c1, c2, c3, t, rfl, hs1, hi1⟩ := isBind_of_trod n' _ _ ht1
     obtain ⟨_, hl0, hcell0⟩ := World.cells?_some hc0
     obtain ⟨_, hl1, hcell1⟩ := World.cells?_some hc1
     have hsp : a.spot = none := by
       have := hcell0 0 (by omega)
       rw [List.getElem?_eq_getElem (by omega)] at this
       have := cell_spot this
       simpa [Addr.add] using this
     have hblk : a.block < w.heap.size := by
       have := World.cells?_block hc0 (by omega)
       rwa [addr_add _ _ hsp] at this
     rw [addr_add _ _ hsp] at hcell1
     refine ⟨hsp, hblk, s, c0, c1, c2, c3, t, ?_, ?_, ?_, ?_, ?_, hs1, hi1⟩
     · simpa [Addr.add] using hcell1 0 (by omega)
     · simpa [Addr.add] using hcell1 1 (by omega)
     · simpa [Addr.add] using hcell1 2 (by omega)
     · simpa [Addr.add] using hcell1 3 (by omega)
     · simpa [Addr.add] using hcell1 4 (by omega)
   obtain ⟨ts, htl, hts⟩ := bs_of (fun i hi => (each i hi).2.2) len (Nat.le_refl _)
   subst htl
   refine ⟨ts, some a, cap, rfl, by omega, by omega, fun hne => ?_⟩
   have hpos : 0 < ts.length := by cases ts with
     | nil => exact absurd rfl hne
     | cons _ _ => simp
   obtain ⟨hsp, hblk, _⟩ := each 0 hpos
   obtain ⟨b, o, sp'⟩ := a
   simp only at hsp
   subst hsp
   refine ⟨b, o, rfl, hblk, ?_⟩
   simpa using hts
theorem shut_bd {H : Type} {enc : TypeId × Value → H} {W W' : World} {sp : Nat → Bool} {v : Value} {d : DataW H} {ps : List MemPlace} (h : DataW.Trod enc Tryz.prog W 0 (fun _ => true) true 26 v d ps) (hb : Below W.heap.size W W')
   (hs : ∀ p ∈ ps, sp p.block = true) : DataW.Trod enc Tryz.prog W' 0 sp true 26 v d ps := by
 have hlt : ∀ p ∈ ps, p.block < W.heap.size := by
   obtain ⟨n, hn⟩ := h
   exact DataW.trod_lt n _ _ _ hn
 exact WideElems.Trod_stays (by kernel_rfl) (by kernel_rfl) (of_decide_eq_true (by kernel_rfl)) h (fun p hp => hb.same (hlt p hp)) hs
end Go.Proofs.YtlmdhlckgbgfhaaGreatDoor
