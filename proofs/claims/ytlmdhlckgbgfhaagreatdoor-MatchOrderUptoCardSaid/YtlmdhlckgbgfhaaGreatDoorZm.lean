/- Texts that belong together: The reference parser: chains of operations. The reference parser: parts of terms; all together. The reference parser: sources. The laws of match: their examples. A region that draws its order, in which one operation may write old memory, an operation may end another's fact, and guards may strike operations out. The frame that the cards of package arith share: what a call that only adds to memory o -/
import Derived.Test.YtlmdhlckgbgfhaaGreatDoorZl
import Derived.Test.YtlmdhlckgbgfhaaGreatDoorZb
import Derived.Test.YtlmdhlckgbgfhaaGreatDoorZk
import Derived.Test.YtlmdhlckgbgfhaaGreatDoorZh
import Derived.Test.YtlmdhlckgbgfhaaGreatDoorZi
import Derived.Test.YtlmdhlckgbgfhaaGreatDoorZd
import Derived.Test.YtlmdhlckgbgfhaaGreatDoorCards
import Derived.Test.YtlmdhlckgbgfhaaGreatDoorTie
import Derived.Test.YtlmdhlckgbgfhaaGreatDoorProg
import Derived.Below
import Derived.Lib.Hide
import Derived.ProofKit
import Derived.OpenShut
import Derived.Deep.DeepHandedRow
import Derived.Lib.LaidTab
import Derived.MakeChecks
import Derived.Lay
set_option maxRecDepth 100000
set_option maxHeartbeats 400000000
namespace Go.Proofs.YtlmdhlckgbgfhaaGreatDoor
open Go.RowKit Go.Shelf
attribute [local go_sem] Oper.semAt_some

theorem twoTerm {ok : Nat → Prop} {w : World} {g : Nat} {c0 c1 c2 c3 d0 d1 d2 d3 : Value} {t u : Tm} {k : Int} {s : ByteArray} (hg : w.heap[g]? = some (.cells #[c0, c1, c2, c3, d0, d1, d2, d3] 24 (0, 0))) (h : IsTmIn ok w c0 c1 c2 c3 t) (h' : IsTmIn ok w d0 d1 d2 d3 u) (hok : ok g) (hk : 0 ≤ k ∧ k ≤ 255) (hs : s.size ≤ maxLen) :
   IsTmIn ok w (.int .u8 k) (.int .i64 0) (.string s) (.slice (some ⟨g, 0, none⟩) 2 2) (.mk k 0 s [t, u]) := by
 unfold IsTmIn
 refine ⟨rfl, hk, rfl, i64_small (by decide) (by decide), rfl, hs, some ⟨g, 0, none⟩, 2, rfl, by unfold maxLen; simp, fun _ => ⟨g, 0, rfl, hok, ?_⟩⟩
 unfold IsTmsIn
 refine ⟨c0, c1, c2, c3, cells_at hg 0 _ rfl, cells_at hg 1 _ rfl, cells_at hg 2 _ rfl, cells_at hg 3 _ rfl, h, ?_⟩
 unfold IsTmsIn
 refine ⟨d0, d1, d2, d3, cells_at hg 4 _ rfl, cells_at hg 5 _ rfl, cells_at hg 6 _ rfl, cells_at hg 7 _ rfl, h', ?_⟩
 unfold IsTmsIn
 trivial
def TwoF (l : List Tk) (P m : Nat) (C : Array Value) (t : Tm) (w0 : World) (v : Value) (w : World) : Prop := ∃ a cap g, v = .slice (some ⟨g, 0, none⟩) 2 2 ∧ w0.heap.size ≤ g ∧
 w.heap[g]? = some (.cells (C ++ #[.int .u8 t.kind, .int .i64 t.num, .string t.name, .slice a t.args.length cap]) 24 (0, 0)) ∧
 IsTmIn (fun b => w0.heap.size ≤ b ∧ b < g) w (.int .u8 t.kind) (.int .i64 t.num) (.string t.name) (.slice a t.args.length cap) t ∧ InAt l P m w
theorem TwoF.grow {l : List Tk} {P m : Nat} {C : Array Value} {t : Tm} {w0 : World} {v : Value} {w w' : World} (h : TwoF l P m C t w0 v w) (hb : Below w.heap.size w w') : TwoF l P m C t w0 v w' := by
 obtain ⟨a, cap, g, e, h0, h1, h2, h3⟩ := h
 have hg := (gL h1)
 exact ⟨a, cap, g, e, h0, (hb.block g hg).trans h1, h2.keep fun b hf => ⟨hf, hb.block b (by omega)⟩, h3.grow hb⟩
def FCh (l : List Tk) (P m : Nat) (s : ByteArray) (c0 c1 c2 c3 : Value) (t : Tm) (w0 : World) : Facts := fun i v w => match i with
 | 0 => v = .string s
 | 1 => v = .agg #[c0, c1, c2, c3]
 | 2 => v = .pointer (some ⟨P, 0, none⟩)
 | 3 => CallF l P m t w0 v w
 | 4 => TwoF l P m #[c0, c1, c2, c3] t w0 v w
 | _ => True
theorem FCh_grow {l : List Tk} {P m : Nat} {s : ByteArray} {c0 c1 c2 c3 : Value} {t : Tm} {w0 : World} (i : Nat) (v : Value) (w w' : World) (h : FCh l P m s c0 c1 c2 c3 t w0 i v w) (hb : Below w.heap.size w w') : FCh l P m s c0 c1 c2 c3 t w0 i v w' := by
 match i, h with
 | 0, h => exact h
 | 1, h => exact h
 | 2, h => exact h
 | 3, h => exact CallF.grow h hb
 | 4, h => exact TwoF.grow h hb
 | _ + 5, _ => trivial
structure ChI (l : List Tk) (P T : Nat) (next : Nat → Option (Tm × Nat)) (is : Nat → Bool) (u : Tm) (m : Nat) (W W1 : World) (k : Nat) (t : Tm) (i : Nat) (a : Option Addr) (c : Nat) (wr : World) : Prop where
 eq : chainP next is l k i t = some (u, m)
 ia : InAt l P i wr
 box : wr.heap[T]? = some (.cells #[.int .u8 t.kind, .int .i64 t.num, .string t.name, .slice a t.args.length c] 24 (0, 0))
 res : wr.heap[W.heap.size]? = some (.cells #[.int .u8 0, .int .i64 0, .string ⟨#[]⟩, .slice none 0 0] 24 (0, 0))
 tm : IsTmIn (fun b => W1.heap.size ≤ b ∧ b < wr.heap.size ∧ b ≠ T) wr (.int .u8 t.kind) (.int .i64 t.num) (.string t.name) (.slice a t.args.length c) t
 on : On P W wr
theorem sum_chain {l : List Tk} {P f : Nat} (hf : PC l P 176 (fun i => productP f l i)) {n : Nat} {W : World} (h : InAt l P n W) {t0 : Tm} {m0 : Nat} (h0 : productP f l n = some (t0, m0)) {u : Tm} {m : Nat} (hc : chainP (fun i => productP f l i) (addAt l) l f m0 t0 = some (u, m)) :
   Calls Tryz.prog 150 #[.pointer (some ⟨P, 0, none⟩)] W (PPost l P m u W) := by
 obtain ⟨W1, hW1, hr1, hb1, hz1⟩ := rowTerm W (.int .u8 0) (.int .i64 0) (.string ⟨#[]⟩) (.slice none 0 0)
 have HK := Hi (hf _ _ _ W1 (h.grow hb1) h0)
 have HPS := Hi (fun i => pt_size h.ok i)
 have HOKL := Hi h.ok.1
 have HR1 := Hi hr1
 have HB1 := Hi hb1
 have HP := Hi h.lt
 have HZ1 := Hi hz1
 have HF := Hi hf
 have HC := Hi hc
 clear h hf hc h0 hr1 hb1 hz1
 go_enter Tryz.func150, Tryz.ntmps150
 go_wp2_with (first
   | (go_at_call 176; refine HK.out.mono ?_; clear HK; rintro e W2 ⟨⟨a2, c2, rfl, ht2⟩, hI2, hO2⟩
      obtain ⟨W3, hW3, hr3, hb3, hz3⟩ := rowTerm W2 (.int .u8 t0.kind) (.int .i64 t0.num) (.string t0.name) (.slice a2 t0.args.length c2)
      have HO3 := Hi (hO2.trans (On.of_below hb3))
      have HZ2 := Hi (And.intro hI2.lt hO2.size)
      have HCI := Hi (show ChI l P W2.heap.size (fun i => productP f l i) (addAt l) u m W W1 f t0 m0 a2 c2 W3 from ⟨HC.out, hI2.grow hb3, hr3, (hO2.trans (On.of_below hb3)).row HR1.out (by have := HP.out; omega), ht2.keep fun b hf => ⟨⟨hf.1, by omega, by omega⟩, hb3.block b hf.2⟩, (On.of_below HB1.out).trans (hO2.trans (On.of_below hb3))⟩)
      have HW3 := Hi hW3
      clear ht2 hI2 hO2 hr3 hb3 hz3 hW3))
 obtain ⟨T, hT⟩ : ∃ T, W2.heap.size = T := ⟨_, rfl⟩
 rw [HW3.out]
 rw [hT] at HCI HZ2 ⊢
 clear hT HW3
 go_loopg [4] f (fun k _ wr => ∃ (t : Tm) (i : Nat) (a : Option Addr) (c : Nat), ChI l P T (fun i => productP f l i) (addAt l) u m W W1 k t i a c wr)
 case atStart => exact ⟨t0, m0, a2, c2, HCI.out⟩
 case round =>
   obtain ⟨t, i, a, c, hA⟩ := hrel
   cases gk with
   | zero => have := hA.eq; simp [chainP] at this
   | succ k =>
   have heq := hA.eq
   simp only [chainP] at heq
   have HARG := Hi hA
   have HEQ := Hi heq
   have q0 := cells_at hA.box 0 _ rfl
   have q1 := cells_at hA.box 1 _ rfl
   have q2 := cells_at hA.box 2 _ rfl
   have q3 := cells_at hA.box 3 _ rfl
   have HSB : Hid (Below wr.heap.size wr wr) := Hi bR
   have HSA := Hi (fun (s : ByteArray) (Wx : World) (hx : Below wr.heap.size wr Wx) => sees_any (hA.ia.grow hx) s)
   clear hA heq
   obtain ⟨D1, hD1⟩ : ∃ D, seesL l i ⟨#[43]⟩ = D := ⟨_, rfl⟩
   cases D1 with
   | true =>
     have HD1 := Hi hD1
     clear hD1
     have hfd := tok_field1
     have hmm : addAt l i = true := by unfold addAt; simp [HD1.out]
     have HLT := Hi (sees_pos (l := l) (n := i) HD1.out)
     obtain ⟨s, hst⟩ : ∃ s, pt l i = s := ⟨_, rfl⟩
     have HST := Hi hst
     have HSZ : Hid (s.size ≤ maxLen) := Hi (by rw [← hst]; exact HPS.out i)
     have heq := HEQ.out
     rw [hmm, if_pos rfl, hst] at heq
     cases hpi : productP f l (i + 1) with
     | none => rw [hpi] at heq; cases heq
     | some x =>
     obtain ⟨u1, m1⟩ := x
     rw [hpi] at heq
     simp only at heq
     have HPI := Hi hpi
     have HEQ2 := Hi heq
     have hilt : i < 40000 := by have := HLT.out; have := HOKL.out; omega
     have hw : IntKind.i64.wrap ((i : Int) + 1) = (i : Int) + 1 := IntWalk.i64_in _ (by omega)
     clear heq hpi hmm hst HEQ
     go_wp2_with (first
         | (go_at_call 178; have hhe := here_any (HARG.out.ia.grow HSB1.out); rw [HST.out] at hhe; refine hhe.mono ?_; clear hhe; rintro e V8 ⟨⟨A, rfl⟩, hV8⟩
            have hI8 := (HARG.out.ia.grow HSB1.out).grow hV8
            obtain ⟨_, _, _, _, p1, _, _, _⟩ := hI8.cells
            have hff := hI8.frozen
            obtain ⟨W6, hW6, hI6, hO6⟩ := hI8.step HLT.out
            have HI6 := Hi hI6
            have HO6 := Hi (((On.of_below (P := P) HSB1.out).trans (On.of_below hV8)).trans hO6)
            clear hV8 hI8 hI6 hO6)
         | (go_at_call 177; have hsee := HSA.out ⟨#[43]⟩ _ HSB.out; rw [HD1.out] at hsee; refine hsee.mono ?_; clear hsee; rintro e V1 ⟨rfl, hV1⟩; have HSB1 := Hi (HSB.out.trans (hV1.mono HSB.out.size)); clear hV1 HSB))
     have HTP : Hid (T ≠ P) := Hi (by have := HZ2.out.1; omega)
     refine wp_region_rel_tail (by kernel_rfl) 5 3 (On P) (fun _ _ h => On.of_below h) (fun _ _ _ h k => h.trans k) (fun _ _ h => h.size) (by decide) (FCh l P m1 s (.int .u8 t.kind) (.int .i64 t.num) (.string t.name) (.slice a t.args.length c) u1 W6) (by kernel_rfl) (by kernel_rfl) (steps_toR ?_) ?_
     · simp only [List.take_succ_cons, List.take_zero]
       refine ⟨?_, ?_, ?_, ?_, ?_, trivial⟩
       · intro ac wx hb he hd hs ho hp
         refine ⟨rfl, ?_⟩
         have h4 : ac.tmps.getD 4 undef = .string s := (ho 4 (by kernel_rfl)).trans rfl
         unfold Oper.wp
         go_simp
         exact SteppedR.at (v := .string s) (by first | rfl | simp) hd (show (0 : Nat) ≠ 3 by decide) bR rfl FCh_grow
       · intro ac wx hb he hd hs ho hp
         refine ⟨rfl, ?_⟩
         have h3 : ac.tmps.getD 3 undef = .pointer (some ⟨T, 0, none⟩) := (ho 3 (by kernel_rfl)).trans rfl
         have hx := (HO6.out.trans hb).row HARG.out.box HTP.out
         have x0 := cells_at hx 0 _ rfl
         have x1 := cells_at hx 1 _ rfl
         have x2 := cells_at hx 2 _ rfl
         have x3 := cells_at hx 3 _ rfl
         unfold Oper.wp
         go_simp
         exact SteppedR.at (v := .agg #[.int .u8 t.kind, .int .i64 t.num, .string t.name, .slice a t.args.length c]) (by first | rfl | simp) hd (show (1 : Nat) ≠ 3 by decide) bR rfl FCh_grow
       · intro ac wx hb he hd hs ho hp
         refine ⟨rfl, ?_⟩
         have h0 : ac.tmps.getD 0 undef = .pointer (some ⟨P, 0, none⟩) := (ho 0 (by kernel_rfl)).trans rfl
         unfold Oper.wp
         go_simp
         exact SteppedR.at (v := .pointer (some ⟨P, 0, none⟩)) (by first | rfl | simp) hd (show (2 : Nat) ≠ 3 by decide) bR rfl FCh_grow
       · intro ac wx hb he hd hs ho hp
         refine ⟨rfl, ?_⟩
         have h2 : ac.tmps.getD 25 undef = .pointer (some ⟨P, 0, none⟩) := facts_at hp 2 25 (by kernel_rfl)
         have hbe := he (Or.inl rfl)
         have hx := HF.out (i + 1) u1 m1 wx (HI6.out.grow hbe) HPI.out
         unfold Oper.wp
         go_simp
         go_at_call 176
         refine hx.mono ?_
         rintro e w' ⟨⟨a', cap', rfl, ht'⟩, hI', hO'⟩
         refine SteppedR.call (by first | rfl | simp) hd rfl hO' ⟨a', cap', rfl, ht'.keep fun b hf => ⟨⟨by have := hbe.size; omega, hf.2⟩, rfl⟩, hI'⟩ ?_
         intro j u hne hw hj
         match j, hj with
         | 0, h => exact h
         | 1, h => exact h
         | 2, h => exact h
         | 3, _ => exact absurd rfl hne
         | 4, _ => exact absurd (hw.symm.trans (by kernel_rfl)) Bool.false_ne_true
         | _ + 5, _ => trivial
       · intro ac wx hb he hd hs ho hp
         refine ⟨rfl, ?_⟩
         have h1 : ac.tmps.getD 24 undef = .agg #[.int .u8 t.kind, .int .i64 t.num, .string t.name, .slice a t.args.length c] := facts_at hp 1 24 (by kernel_rfl)
         obtain ⟨a20, c20, h20, ht20, hI20⟩ : CallF l P m1 u1 W6 (ac.tmps.getD 26 undef) wx := facts_at hp 3 26 (by kernel_rfl)
         have s1 := qslot_of (hs.trans (show _ = 30 from rfl)) (by decide) h1
         have s20 := qslot_of (hs.trans (show _ = 30 from rfl)) (by decide) h20
         unfold Oper.wp
         go_simp
         refine SteppedR.at rfl hd (show (4 : Nat) ≠ 3 by decide) (bR.alloc (Nat.le_refl _) _) ⟨a20, c20, wx.heap.size, rfl, hb.size, World.alloc_heap_new _ _, ht20.keep fun b hf => ⟨⟨hf.1, hf.2⟩, Below.heap_alloc _ _ _ hf.2⟩, hI20.grow (bR.alloc (Nat.le_refl _) _)⟩ FCh_grow
     · intro ac wz hbz hd hs2 ho2 hf
       have k0 : ac.tmps.getD 23 undef = .string s := facts_toR hf 0 23 (by decide) (by kernel_rfl)
       have k1 : ac.tmps.getD 24 undef = .agg #[.int .u8 t.kind, .int .i64 t.num, .string t.name, .slice a t.args.length c] := facts_toR hf 1 24 (by decide) (by kernel_rfl)
       have k2 : ac.tmps.getD 25 undef = .pointer (some ⟨P, 0, none⟩) := facts_toR hf 2 25 (by decide) (by kernel_rfl)
       obtain ⟨a21, c21, g21, k4, hg21, hr21, ht21, hI21⟩ : TwoF l P m1 #[.int .u8 t.kind, .int .i64 t.num, .string t.name, .slice a t.args.length c] u1 W6 (ac.tmps.getD 27 undef) wz := facts_toR hf 4 27 (by decide) (by kernel_rfl)
       obtain ⟨u3, k3⟩ : ∃ u, ac.tmps.getD 26 undef = u := ⟨_, rfl⟩
       have hE := slots_mergeR [false, false, false, false, false, false, false, false, false, false, false, false, false, false, false, false, false, false, false, false, false, false, false, true, true, true, true, true, false, false] 30 hs2 rfl (by kernel_rfl) ho2
       simp only [mergeFrom, Nat.zero_add, Nat.reduceAdd, k0, k1, k2, k3, k4] at hE
       obtain ⟨TT, DD⟩ := ac
       simp only at hE hd
       subst hd hE
       clear k0 k1 k2 k3 k4 hf hs2 ho2
       simp only [List.drop_succ_cons, List.drop_zero]
       have hOz := HO6.out.trans hbz
       have hbox := hOz.row HARG.out.box HTP.out
       have hres := hOz.row HARG.out.res (by have := HP.out; omega)
       have hgT : g21 ≠ T := by have := (gL HARG.out.box); have := HO6.out.size; omega
       have hgl := (gL hr21)
       have hsz1 : W1.heap.size ≤ wr.heap.size := by have := (gL HARG.out.box); have := HZ2.out.2; omega
       have hok1 : IsTmIn (fun b => W1.heap.size ≤ b ∧ b < wz.heap.size ∧ b ≠ T) wz (.int .u8 t.kind) (.int .i64 t.num) (.string t.name) (.slice a t.args.length c) t := HARG.out.tm.keep fun b hf => ⟨⟨hf.1, Nat.lt_of_lt_of_le hf.2.1 hOz.size, hf.2.2⟩, hOz.block b hf.2.1 (by have := HZ1.out; have := HP.out; have := hf.1; omega)⟩
       have hok2 : IsTmIn (fun b => W1.heap.size ≤ b ∧ b < wz.heap.size ∧ b ≠ T) wz _ _ _ _ u1 := ht21.keep fun b hf => ⟨⟨by have := HO6.out.size; omega, by omega, by have := (gL HARG.out.box); have := HO6.out.size; omega⟩, rfl⟩
       have hnew := twoTerm (k := 5) (s := s) (ok := fun b => W1.heap.size ≤ b ∧ b < wz.heap.size ∧ b ≠ T) hr21 hok1 hok2 ⟨by have := HO6.out.size; omega, hgl, hgT⟩ (by decide) HSZ.out
       have H5 := Hi (And.intro hbox (And.intro hres (And.intro hnew (And.intro hI21 (And.intro hOz hgT)))))
       clear hbox hres hnew hI21 hOz hgT hok1 hok2 ht21 hgl hsz1 hbz hg21 hr21
       go_wp2_with (go_at_call 179; refine (opnew_any s _ _ _ wz).mono ?_; rintro e W8 ⟨rfl, hB8⟩; have hb8 := (hB8.block T (gL H5.out.1)).trans H5.out.1; have x0 := cells_at hb8 0 _ rfl; have x1 := cells_at hb8 1 _ rfl; have x2 := cells_at hb8 2 _ rfl; have x3 := cells_at hb8 3 _ rfl; have hfz := row_frozen hb8; obtain ⟨W9, hW9, hr9, hb9, hz9, hk9⟩ := setTerm W8 T _ _ _ _ (.int .u8 5) (.int .i64 0) (.string s) (.slice (some ⟨g21, 0, none⟩) 2 2) _ hb8; have H9 := Hi (And.intro hr9 (And.intro hb9 (And.intro hz9 hk9))); have HB8 := Hi hB8; clear hB8 hb8 hr9 hb9 hz9 hk9)
       go_roundg k
       case measure => omega
       case rel =>
         obtain ⟨h1, h2, h3, h4, h5, h6⟩ := H5.out
         obtain ⟨hr9, hb9, hz9, hk9⟩ := H9.out
         have hTW : W.heap.size < T := by have := HZ2.out.2; have := HZ1.out; omega
         have hB8 := HB8.out
         exact ⟨opT s [t, u1], m1, some ⟨g21, 0, none⟩, 2, ⟨HEQ2.out, (h4.grow hB8).below hb9 HZ2.out.1, hr9, (hk9 W.heap.size (by omega)).trans ((hB8.block _ (gL h2)).trans h2), h3.keep fun b hf => ⟨⟨hf.1, by rw [hz9]; exact Nat.lt_of_lt_of_le hf.2.1 hB8.size, hf.2.2⟩, (hk9 b hf.2.2).trans (hB8.block b hf.2.1)⟩, ((HARG.out.on.trans h5).trans (On.of_below hB8)).fresh hb9 (by omega)⟩⟩
   | false =>
   have HD1 := Hi hD1
   clear hD1
   obtain ⟨D2, hD2⟩ : ∃ D, seesL l i ⟨#[45]⟩ = D := ⟨_, rfl⟩
   cases D2 with
   | true =>
     have HD2 := Hi hD2
     clear hD2
     have hfd := tok_field1
     have hmm : addAt l i = true := by unfold addAt; simp [HD1.out, HD2.out]
     have HLT := Hi (sees_pos (l := l) (n := i) HD2.out)
     obtain ⟨s, hst⟩ : ∃ s, pt l i = s := ⟨_, rfl⟩
     have HST := Hi hst
     have HSZ : Hid (s.size ≤ maxLen) := Hi (by rw [← hst]; exact HPS.out i)
     have heq := HEQ.out
     rw [hmm, if_pos rfl, hst] at heq
     cases hpi : productP f l (i + 1) with
     | none => rw [hpi] at heq; cases heq
     | some x =>
     obtain ⟨u1, m1⟩ := x
     rw [hpi] at heq
     simp only at heq
     have HPI := Hi hpi
     have HEQ2 := Hi heq
     have hilt : i < 40000 := by have := HLT.out; have := HOKL.out; omega
     have hw : IntKind.i64.wrap ((i : Int) + 1) = (i : Int) + 1 := IntWalk.i64_in _ (by omega)
     clear heq hpi hmm hst HEQ
     go_wp2_with (first
         | (go_at_call 178; have hhe := here_any (HARG.out.ia.grow HSB2.out); rw [HST.out] at hhe; refine hhe.mono ?_; clear hhe; rintro e V8 ⟨⟨A, rfl⟩, hV8⟩
            have hI8 := (HARG.out.ia.grow HSB2.out).grow hV8
            obtain ⟨_, _, _, _, p1, _, _, _⟩ := hI8.cells
            have hff := hI8.frozen
            obtain ⟨W6, hW6, hI6, hO6⟩ := hI8.step HLT.out
            have HI6 := Hi hI6
            have HO6 := Hi (((On.of_below (P := P) HSB2.out).trans (On.of_below hV8)).trans hO6)
            clear hV8 hI8 hI6 hO6)
         | (go_at_call 177; have hsee := HSA.out ⟨#[45]⟩ _ HSB1.out; rw [HD2.out] at hsee; refine hsee.mono ?_; clear hsee; rintro e V2 ⟨rfl, hV2⟩; have HSB2 := Hi (HSB1.out.trans (hV2.mono HSB1.out.size)); clear hV2 HSB1)
         | (go_at_call 177; have hsee := HSA.out ⟨#[43]⟩ _ HSB.out; rw [HD1.out] at hsee; refine hsee.mono ?_; clear hsee; rintro e V1 ⟨rfl, hV1⟩; have HSB1 := Hi (HSB.out.trans (hV1.mono HSB.out.size)); clear hV1 HSB))
     have HTP : Hid (T ≠ P) := Hi (by have := HZ2.out.1; omega)
     refine wp_region_rel_tail (by kernel_rfl) 5 3 (On P) (fun _ _ h => On.of_below h) (fun _ _ _ h k => h.trans k) (fun _ _ h => h.size) (by decide) (FCh l P m1 s (.int .u8 t.kind) (.int .i64 t.num) (.string t.name) (.slice a t.args.length c) u1 W6) (by kernel_rfl) (by kernel_rfl) (steps_toR ?_) ?_
     · simp only [List.take_succ_cons, List.take_zero]
       refine ⟨?_, ?_, ?_, ?_, ?_, trivial⟩
       · intro ac wx hb he hd hs ho hp
         refine ⟨rfl, ?_⟩
         have h4 : ac.tmps.getD 4 undef = .string s := (ho 4 (by kernel_rfl)).trans rfl
         unfold Oper.wp
         go_simp
         exact SteppedR.at (v := .string s) (by first | rfl | simp) hd (show (0 : Nat) ≠ 3 by decide) bR rfl FCh_grow
       · intro ac wx hb he hd hs ho hp
         refine ⟨rfl, ?_⟩
         have h3 : ac.tmps.getD 3 undef = .pointer (some ⟨T, 0, none⟩) := (ho 3 (by kernel_rfl)).trans rfl
         have hx := (HO6.out.trans hb).row HARG.out.box HTP.out
         have x0 := cells_at hx 0 _ rfl
         have x1 := cells_at hx 1 _ rfl
         have x2 := cells_at hx 2 _ rfl
         have x3 := cells_at hx 3 _ rfl
         unfold Oper.wp
         go_simp
         exact SteppedR.at (v := .agg #[.int .u8 t.kind, .int .i64 t.num, .string t.name, .slice a t.args.length c]) (by first | rfl | simp) hd (show (1 : Nat) ≠ 3 by decide) bR rfl FCh_grow
       · intro ac wx hb he hd hs ho hp
         refine ⟨rfl, ?_⟩
         have h0 : ac.tmps.getD 0 undef = .pointer (some ⟨P, 0, none⟩) := (ho 0 (by kernel_rfl)).trans rfl
         unfold Oper.wp
         go_simp
         exact SteppedR.at (v := .pointer (some ⟨P, 0, none⟩)) (by first | rfl | simp) hd (show (2 : Nat) ≠ 3 by decide) bR rfl FCh_grow
       · intro ac wx hb he hd hs ho hp
         refine ⟨rfl, ?_⟩
         have h2 : ac.tmps.getD 25 undef = .pointer (some ⟨P, 0, none⟩) := facts_at hp 2 25 (by kernel_rfl)
         have hbe := he (Or.inl rfl)
         have hx := HF.out (i + 1) u1 m1 wx (HI6.out.grow hbe) HPI.out
         unfold Oper.wp
         go_simp
         go_at_call 176
         refine hx.mono ?_
         rintro e w' ⟨⟨a', cap', rfl, ht'⟩, hI', hO'⟩
         refine SteppedR.call (by first | rfl | simp) hd rfl hO' ⟨a', cap', rfl, ht'.keep fun b hf => ⟨⟨by have := hbe.size; omega, hf.2⟩, rfl⟩, hI'⟩ ?_
         intro j u hne hw hj
         match j, hj with
         | 0, h => exact h
         | 1, h => exact h
         | 2, h => exact h
         | 3, _ => exact absurd rfl hne
         | 4, _ => exact absurd (hw.symm.trans (by kernel_rfl)) Bool.false_ne_true
         | _ + 5, _ => trivial
       · intro ac wx hb he hd hs ho hp
         refine ⟨rfl, ?_⟩
         have h1 : ac.tmps.getD 24 undef = .agg #[.int .u8 t.kind, .int .i64 t.num, .string t.name, .slice a t.args.length c] := facts_at hp 1 24 (by kernel_rfl)
         obtain ⟨a20, c20, h20, ht20, hI20⟩ : CallF l P m1 u1 W6 (ac.tmps.getD 26 undef) wx := facts_at hp 3 26 (by kernel_rfl)
         have s1 := qslot_of (hs.trans (show _ = 30 from rfl)) (by decide) h1
         have s20 := qslot_of (hs.trans (show _ = 30 from rfl)) (by decide) h20
         unfold Oper.wp
         go_simp
         refine SteppedR.at rfl hd (show (4 : Nat) ≠ 3 by decide) (bR.alloc (Nat.le_refl _) _) ⟨a20, c20, wx.heap.size, rfl, hb.size, World.alloc_heap_new _ _, ht20.keep fun b hf => ⟨⟨hf.1, hf.2⟩, Below.heap_alloc _ _ _ hf.2⟩, hI20.grow (bR.alloc (Nat.le_refl _) _)⟩ FCh_grow
     · intro ac wz hbz hd hs2 ho2 hf
       have k0 : ac.tmps.getD 23 undef = .string s := facts_toR hf 0 23 (by decide) (by kernel_rfl)
       have k1 : ac.tmps.getD 24 undef = .agg #[.int .u8 t.kind, .int .i64 t.num, .string t.name, .slice a t.args.length c] := facts_toR hf 1 24 (by decide) (by kernel_rfl)
       have k2 : ac.tmps.getD 25 undef = .pointer (some ⟨P, 0, none⟩) := facts_toR hf 2 25 (by decide) (by kernel_rfl)
       obtain ⟨a21, c21, g21, k4, hg21, hr21, ht21, hI21⟩ : TwoF l P m1 #[.int .u8 t.kind, .int .i64 t.num, .string t.name, .slice a t.args.length c] u1 W6 (ac.tmps.getD 27 undef) wz := facts_toR hf 4 27 (by decide) (by kernel_rfl)
       obtain ⟨u3, k3⟩ : ∃ u, ac.tmps.getD 26 undef = u := ⟨_, rfl⟩
       have hE := slots_mergeR [false, false, false, false, false, false, false, false, false, false, false, false, false, false, false, false, false, false, false, false, false, false, false, true, true, true, true, true, false, false] 30 hs2 rfl (by kernel_rfl) ho2
       simp only [mergeFrom, Nat.zero_add, Nat.reduceAdd, k0, k1, k2, k3, k4] at hE
       obtain ⟨TT, DD⟩ := ac
       simp only at hE hd
       subst hd hE
       clear k0 k1 k2 k3 k4 hf hs2 ho2
       simp only [List.drop_succ_cons, List.drop_zero]
       have hOz := HO6.out.trans hbz
       have hbox := hOz.row HARG.out.box HTP.out
       have hres := hOz.row HARG.out.res (by have := HP.out; omega)
       have hgT : g21 ≠ T := by have := (gL HARG.out.box); have := HO6.out.size; omega
       have hgl := (gL hr21)
       have hsz1 : W1.heap.size ≤ wr.heap.size := by have := (gL HARG.out.box); have := HZ2.out.2; omega
       have hok1 : IsTmIn (fun b => W1.heap.size ≤ b ∧ b < wz.heap.size ∧ b ≠ T) wz (.int .u8 t.kind) (.int .i64 t.num) (.string t.name) (.slice a t.args.length c) t := HARG.out.tm.keep fun b hf => ⟨⟨hf.1, Nat.lt_of_lt_of_le hf.2.1 hOz.size, hf.2.2⟩, hOz.block b hf.2.1 (by have := HZ1.out; have := HP.out; have := hf.1; omega)⟩
       have hok2 : IsTmIn (fun b => W1.heap.size ≤ b ∧ b < wz.heap.size ∧ b ≠ T) wz _ _ _ _ u1 := ht21.keep fun b hf => ⟨⟨by have := HO6.out.size; omega, by omega, by have := (gL HARG.out.box); have := HO6.out.size; omega⟩, rfl⟩
       have hnew := twoTerm (k := 5) (s := s) (ok := fun b => W1.heap.size ≤ b ∧ b < wz.heap.size ∧ b ≠ T) hr21 hok1 hok2 ⟨by have := HO6.out.size; omega, hgl, hgT⟩ (by decide) HSZ.out
       have H5 := Hi (And.intro hbox (And.intro hres (And.intro hnew (And.intro hI21 (And.intro hOz hgT)))))
       clear hbox hres hnew hI21 hOz hgT hok1 hok2 ht21 hgl hsz1 hbz hg21 hr21
       go_wp2_with (go_at_call 179; refine (opnew_any s _ _ _ wz).mono ?_; rintro e W8 ⟨rfl, hB8⟩; have hb8 := (hB8.block T (gL H5.out.1)).trans H5.out.1; have x0 := cells_at hb8 0 _ rfl; have x1 := cells_at hb8 1 _ rfl; have x2 := cells_at hb8 2 _ rfl; have x3 := cells_at hb8 3 _ rfl; have hfz := row_frozen hb8; obtain ⟨W9, hW9, hr9, hb9, hz9, hk9⟩ := setTerm W8 T _ _ _ _ (.int .u8 5) (.int .i64 0) (.string s) (.slice (some ⟨g21, 0, none⟩) 2 2) _ hb8; have H9 := Hi (And.intro hr9 (And.intro hb9 (And.intro hz9 hk9))); have HB8 := Hi hB8; clear hB8 hb8 hr9 hb9 hz9 hk9)
       go_roundg k
       case measure => omega
       case rel =>
         obtain ⟨h1, h2, h3, h4, h5, h6⟩ := H5.out
         obtain ⟨hr9, hb9, hz9, hk9⟩ := H9.out
         have hTW : W.heap.size < T := by have := HZ2.out.2; have := HZ1.out; omega
         have hB8 := HB8.out
         exact ⟨opT s [t, u1], m1, some ⟨g21, 0, none⟩, 2, ⟨HEQ2.out, (h4.grow hB8).below hb9 HZ2.out.1, hr9, (hk9 W.heap.size (by omega)).trans ((hB8.block _ (gL h2)).trans h2), h3.keep fun b hf => ⟨⟨hf.1, by rw [hz9]; exact Nat.lt_of_lt_of_le hf.2.1 hB8.size, hf.2.2⟩, (hk9 b hf.2.2).trans (hB8.block b hf.2.1)⟩, ((HARG.out.on.trans h5).trans (On.of_below hB8)).fresh hb9 (by omega)⟩⟩
   | false =>
   have HD2 := Hi hD2
   clear hD2
   have hmm : addAt l i = false := by unfold addAt; simp [HD1.out, HD2.out]
   have heq := HEQ.out
   rw [hmm, if_neg Bool.false_ne_true] at heq
   simp only [Option.some.injEq, Prod.mk.injEq] at heq
   obtain ⟨rfl, rfl⟩ := heq
   clear hmm HEQ
   go_wp2_with (first
     | (go_at_call 177; have hsee := HSA.out ⟨#[45]⟩ _ HSB1.out; rw [HD2.out] at hsee; refine hsee.mono ?_; clear hsee; rintro e V2 ⟨rfl, hV2⟩; have HSB2 := Hi (HSB1.out.trans (hV2.mono HSB1.out.size)); clear hV2 HSB1; have hO := On.of_below (P := P) HSB2.out; have hbx := hO.row HARG.out.box (by have := HZ2.out.1; omega); have z0 := cells_at hbx 0 _ rfl; have z1 := cells_at hbx 1 _ rfl; have z2 := cells_at hbx 2 _ rfl; have z3 := cells_at hbx 3 _ rfl; have hro := hO.row HARG.out.res (by have := HP.out; omega); have o0 := cells_at hro 0 _ rfl; have o1 := cells_at hro 1 _ rfl; have o2 := cells_at hro 2 _ rfl; have o3 := cells_at hro 3 _ rfl; have hff := row_frozen hro; obtain ⟨W9, hW9, hr9, hb9, hz9, hk9⟩ := setTerm V2 W.heap.size _ _ _ _ (.int .u8 t.kind) (.int .i64 t.num) (.string t.name) (.slice a t.args.length c) _ hro; have HR9 := Hi hr9; have HB9 := Hi (And.intro hb9 (And.intro hz9 hk9)); have HO := Hi hO; clear hbx hro hr9 hb9 hz9 hk9 hO)
     | (go_at_call 177; have hsee := HSA.out ⟨#[43]⟩ _ HSB.out; rw [HD1.out] at hsee; refine hsee.mono ?_; clear hsee; rintro e V1 ⟨rfl, hV1⟩; have HSB1 := Hi (HSB.out.trans (hV1.mono HSB.out.size)); clear hV1 HSB))
   refine bodyPost_ret (v := .agg #[.int .u8 t.kind, .int .i64 t.num, .string t.name, .slice a t.args.length c]) (by simp [results, Tryz.f150, go_sem, cells_at HR9.out 0 _ rfl, cells_at HR9.out 1 _ rfl, cells_at HR9.out 2 _ rfl, cells_at HR9.out 3 _ rfl]) rfl ?_
   obtain ⟨hb9, hz9, hk9⟩ := HB9.out
   exact ⟨⟨_, _, rfl, HARG.out.tm.keep fun b hf => ⟨⟨by have := HZ1.out; omega, by rw [hz9]; exact Nat.lt_of_lt_of_le hf.2.1 HO.out.size⟩, (hk9 b (by have := HZ1.out; omega)).trans (HO.out.block b hf.2.1 (by have := HP.out; have := HZ1.out; omega))⟩⟩, (HARG.out.ia.grow HSB2.out).below (hb9.mono (Nat.le_refl _)) HP.out, (HARG.out.on.trans HO.out).fresh hb9 (Nat.le_refl _)⟩
theorem product_chain {l : List Tk} {P f : Nat} (hf : PC l P 202 (fun i => factorP f l i)) {n : Nat} {W : World} (h : InAt l P n W) {t0 : Tm} {m0 : Nat} (h0 : factorP f l n = some (t0, m0)) {u : Tm} {m : Nat} (hc : chainP (fun i => factorP f l i) (mulAt l) l f m0 t0 = some (u, m)) :
   Calls Tryz.prog 176 #[.pointer (some ⟨P, 0, none⟩)] W (PPost l P m u W) := by
 obtain ⟨W1, hW1, hr1, hb1, hz1⟩ := rowTerm W (.int .u8 0) (.int .i64 0) (.string ⟨#[]⟩) (.slice none 0 0)
 have HK := Hi (hf _ _ _ W1 (h.grow hb1) h0)
 have HPS := Hi (fun i => pt_size h.ok i)
 have HOKL := Hi h.ok.1
 have HR1 := Hi hr1
 have HB1 := Hi hb1
 have HP := Hi h.lt
 have HZ1 := Hi hz1
 have HF := Hi hf
 have HC := Hi hc
 clear h hf hc h0 hr1 hb1 hz1
 go_enter Tryz.func176, Tryz.ntmps176
 go_wp2_with (first
   | (go_at_call 202; refine HK.out.mono ?_; clear HK; rintro e W2 ⟨⟨a2, c2, rfl, ht2⟩, hI2, hO2⟩
      obtain ⟨W3, hW3, hr3, hb3, hz3⟩ := rowTerm W2 (.int .u8 t0.kind) (.int .i64 t0.num) (.string t0.name) (.slice a2 t0.args.length c2)
      have HO3 := Hi (hO2.trans (On.of_below hb3))
      have HZ2 := Hi (And.intro hI2.lt hO2.size)
      have HCI := Hi (show ChI l P W2.heap.size (fun i => factorP f l i) (mulAt l) u m W W1 f t0 m0 a2 c2 W3 from ⟨HC.out, hI2.grow hb3, hr3, (hO2.trans (On.of_below hb3)).row HR1.out (by have := HP.out; omega), ht2.keep fun b hf => ⟨⟨hf.1, by omega, by omega⟩, hb3.block b hf.2⟩, (On.of_below HB1.out).trans (hO2.trans (On.of_below hb3))⟩)
      have HW3 := Hi hW3
      clear ht2 hI2 hO2 hr3 hb3 hz3 hW3))
 obtain ⟨T, hT⟩ : ∃ T, W2.heap.size = T := ⟨_, rfl⟩
 rw [HW3.out]
 rw [hT] at HCI HZ2 ⊢
 clear hT HW3
 go_loopg [4] f (fun k _ wr => ∃ (t : Tm) (i : Nat) (a : Option Addr) (c : Nat), ChI l P T (fun i => factorP f l i) (mulAt l) u m W W1 k t i a c wr)
 case atStart => exact ⟨t0, m0, a2, c2, HCI.out⟩
 case round =>
   obtain ⟨t, i, a, c, hA⟩ := hrel
   cases gk with
   | zero => have := hA.eq; simp [chainP] at this
   | succ k =>
   have heq := hA.eq
   simp only [chainP] at heq
   have HARG := Hi hA
   have HEQ := Hi heq
   have q0 := cells_at hA.box 0 _ rfl
   have q1 := cells_at hA.box 1 _ rfl
   have q2 := cells_at hA.box 2 _ rfl
   have q3 := cells_at hA.box 3 _ rfl
   have HSB : Hid (Below wr.heap.size wr wr) := Hi bR
   have HSA := Hi (fun (s : ByteArray) (Wx : World) (hx : Below wr.heap.size wr Wx) => sees_any (hA.ia.grow hx) s)
   clear hA heq
   obtain ⟨D1, hD1⟩ : ∃ D, seesL l i ⟨#[42]⟩ = D := ⟨_, rfl⟩
   cases D1 with
   | true =>
     have HD1 := Hi hD1
     clear hD1
     have hfd := tok_field1
     have hmm : mulAt l i = true := by unfold mulAt; simp [HD1.out]
     have HLT := Hi (sees_pos (l := l) (n := i) HD1.out)
     obtain ⟨s, hst⟩ : ∃ s, pt l i = s := ⟨_, rfl⟩
     have HST := Hi hst
     have HSZ : Hid (s.size ≤ maxLen) := Hi (by rw [← hst]; exact HPS.out i)
     have heq := HEQ.out
     rw [hmm, if_pos rfl, hst] at heq
     cases hpi : factorP f l (i + 1) with
     | none => rw [hpi] at heq; cases heq
     | some x =>
     obtain ⟨u1, m1⟩ := x
     rw [hpi] at heq
     simp only at heq
     have HPI := Hi hpi
     have HEQ2 := Hi heq
     have hilt : i < 40000 := by have := HLT.out; have := HOKL.out; omega
     have hw : IntKind.i64.wrap ((i : Int) + 1) = (i : Int) + 1 := IntWalk.i64_in _ (by omega)
     clear heq hpi hmm hst HEQ
     go_wp2_with (first
         | (go_at_call 178; have hhe := here_any (HARG.out.ia.grow HSB1.out); rw [HST.out] at hhe; refine hhe.mono ?_; clear hhe; rintro e V8 ⟨⟨A, rfl⟩, hV8⟩
            have hI8 := (HARG.out.ia.grow HSB1.out).grow hV8
            obtain ⟨_, _, _, _, p1, _, _, _⟩ := hI8.cells
            have hff := hI8.frozen
            obtain ⟨W6, hW6, hI6, hO6⟩ := hI8.step HLT.out
            have HI6 := Hi hI6
            have HO6 := Hi (((On.of_below (P := P) HSB1.out).trans (On.of_below hV8)).trans hO6)
            clear hV8 hI8 hI6 hO6)
         | (go_at_call 177; have hsee := HSA.out ⟨#[42]⟩ _ HSB.out; rw [HD1.out] at hsee; refine hsee.mono ?_; clear hsee; rintro e V1 ⟨rfl, hV1⟩; have HSB1 := Hi (HSB.out.trans (hV1.mono HSB.out.size)); clear hV1 HSB))
     have HTP : Hid (T ≠ P) := Hi (by have := HZ2.out.1; omega)
     refine wp_region_rel_tail (by kernel_rfl) 5 3 (On P) (fun _ _ h => On.of_below h) (fun _ _ _ h k => h.trans k) (fun _ _ h => h.size) (by decide) (FCh l P m1 s (.int .u8 t.kind) (.int .i64 t.num) (.string t.name) (.slice a t.args.length c) u1 W6) (by kernel_rfl) (by kernel_rfl) (steps_toR ?_) ?_
     · simp only [List.take_succ_cons, List.take_zero]
       refine ⟨?_, ?_, ?_, ?_, ?_, trivial⟩
       · intro ac wx hb he hd hs ho hp
         refine ⟨rfl, ?_⟩
         have h4 : ac.tmps.getD 4 undef = .string s := (ho 4 (by kernel_rfl)).trans rfl
         unfold Oper.wp
         go_simp
         exact SteppedR.at (v := .string s) (by first | rfl | simp) hd (show (0 : Nat) ≠ 3 by decide) bR rfl FCh_grow
       · intro ac wx hb he hd hs ho hp
         refine ⟨rfl, ?_⟩
         have h3 : ac.tmps.getD 3 undef = .pointer (some ⟨T, 0, none⟩) := (ho 3 (by kernel_rfl)).trans rfl
         have hx := (HO6.out.trans hb).row HARG.out.box HTP.out
         have x0 := cells_at hx 0 _ rfl
         have x1 := cells_at hx 1 _ rfl
         have x2 := cells_at hx 2 _ rfl
         have x3 := cells_at hx 3 _ rfl
         unfold Oper.wp
         go_simp
         exact SteppedR.at (v := .agg #[.int .u8 t.kind, .int .i64 t.num, .string t.name, .slice a t.args.length c]) (by first | rfl | simp) hd (show (1 : Nat) ≠ 3 by decide) bR rfl FCh_grow
       · intro ac wx hb he hd hs ho hp
         refine ⟨rfl, ?_⟩
         have h0 : ac.tmps.getD 0 undef = .pointer (some ⟨P, 0, none⟩) := (ho 0 (by kernel_rfl)).trans rfl
         unfold Oper.wp
         go_simp
         exact SteppedR.at (v := .pointer (some ⟨P, 0, none⟩)) (by first | rfl | simp) hd (show (2 : Nat) ≠ 3 by decide) bR rfl FCh_grow
       · intro ac wx hb he hd hs ho hp
         refine ⟨rfl, ?_⟩
         have h2 : ac.tmps.getD 29 undef = .pointer (some ⟨P, 0, none⟩) := facts_at hp 2 29 (by kernel_rfl)
         have hbe := he (Or.inl rfl)
         have hx := HF.out (i + 1) u1 m1 wx (HI6.out.grow hbe) HPI.out
         unfold Oper.wp
         go_simp
         go_at_call 202
         refine hx.mono ?_
         rintro e w' ⟨⟨a', cap', rfl, ht'⟩, hI', hO'⟩
         refine SteppedR.call (by first | rfl | simp) hd rfl hO' ⟨a', cap', rfl, ht'.keep fun b hf => ⟨⟨by have := hbe.size; omega, hf.2⟩, rfl⟩, hI'⟩ ?_
         intro j u hne hw hj
         match j, hj with
         | 0, h => exact h
         | 1, h => exact h
         | 2, h => exact h
         | 3, _ => exact absurd rfl hne
         | 4, _ => exact absurd (hw.symm.trans (by kernel_rfl)) Bool.false_ne_true
         | _ + 5, _ => trivial
       · intro ac wx hb he hd hs ho hp
         refine ⟨rfl, ?_⟩
         have h1 : ac.tmps.getD 28 undef = .agg #[.int .u8 t.kind, .int .i64 t.num, .string t.name, .slice a t.args.length c] := facts_at hp 1 28 (by kernel_rfl)
         obtain ⟨a20, c20, h20, ht20, hI20⟩ : CallF l P m1 u1 W6 (ac.tmps.getD 30 undef) wx := facts_at hp 3 30 (by kernel_rfl)
         have s1 := qslot_of (hs.trans (show _ = 34 from rfl)) (by decide) h1
         have s20 := qslot_of (hs.trans (show _ = 34 from rfl)) (by decide) h20
         unfold Oper.wp
         go_simp
         refine SteppedR.at rfl hd (show (4 : Nat) ≠ 3 by decide) (bR.alloc (Nat.le_refl _) _) ⟨a20, c20, wx.heap.size, rfl, hb.size, World.alloc_heap_new _ _, ht20.keep fun b hf => ⟨⟨hf.1, hf.2⟩, Below.heap_alloc _ _ _ hf.2⟩, hI20.grow (bR.alloc (Nat.le_refl _) _)⟩ FCh_grow
     · intro ac wz hbz hd hs2 ho2 hf
       have k0 : ac.tmps.getD 27 undef = .string s := facts_toR hf 0 27 (by decide) (by kernel_rfl)
       have k1 : ac.tmps.getD 28 undef = .agg #[.int .u8 t.kind, .int .i64 t.num, .string t.name, .slice a t.args.length c] := facts_toR hf 1 28 (by decide) (by kernel_rfl)
       have k2 : ac.tmps.getD 29 undef = .pointer (some ⟨P, 0, none⟩) := facts_toR hf 2 29 (by decide) (by kernel_rfl)
       obtain ⟨a21, c21, g21, k4, hg21, hr21, ht21, hI21⟩ : TwoF l P m1 #[.int .u8 t.kind, .int .i64 t.num, .string t.name, .slice a t.args.length c] u1 W6 (ac.tmps.getD 31 undef) wz := facts_toR hf 4 31 (by decide) (by kernel_rfl)
       obtain ⟨u3, k3⟩ : ∃ u, ac.tmps.getD 30 undef = u := ⟨_, rfl⟩
       have hE := slots_mergeR [false, false, false, false, false, false, false, false, false, false, false, false, false, false, false, false, false, false, false, false, false, false, false, false, false, false, false, true, true, true, true, true, false, false] 34 hs2 rfl (by kernel_rfl) ho2
       simp only [mergeFrom, Nat.zero_add, Nat.reduceAdd, k0, k1, k2, k3, k4] at hE
       obtain ⟨TT, DD⟩ := ac
       simp only at hE hd
       subst hd hE
       clear k0 k1 k2 k3 k4 hf hs2 ho2
       simp only [List.drop_succ_cons, List.drop_zero]
       have hOz := HO6.out.trans hbz
       have hbox := hOz.row HARG.out.box HTP.out
       have hres := hOz.row HARG.out.res (by have := HP.out; omega)
       have hgT : g21 ≠ T := by have := (gL HARG.out.box); have := HO6.out.size; omega
       have hgl := (gL hr21)
       have hsz1 : W1.heap.size ≤ wr.heap.size := by have := (gL HARG.out.box); have := HZ2.out.2; omega
       have hok1 : IsTmIn (fun b => W1.heap.size ≤ b ∧ b < wz.heap.size ∧ b ≠ T) wz (.int .u8 t.kind) (.int .i64 t.num) (.string t.name) (.slice a t.args.length c) t := HARG.out.tm.keep fun b hf => ⟨⟨hf.1, Nat.lt_of_lt_of_le hf.2.1 hOz.size, hf.2.2⟩, hOz.block b hf.2.1 (by have := HZ1.out; have := HP.out; have := hf.1; omega)⟩
       have hok2 : IsTmIn (fun b => W1.heap.size ≤ b ∧ b < wz.heap.size ∧ b ≠ T) wz _ _ _ _ u1 := ht21.keep fun b hf => ⟨⟨by have := HO6.out.size; omega, by omega, by have := (gL HARG.out.box); have := HO6.out.size; omega⟩, rfl⟩
       have hnew := twoTerm (k := 5) (s := s) (ok := fun b => W1.heap.size ≤ b ∧ b < wz.heap.size ∧ b ≠ T) hr21 hok1 hok2 ⟨by have := HO6.out.size; omega, hgl, hgT⟩ (by decide) HSZ.out
       have H5 := Hi (And.intro hbox (And.intro hres (And.intro hnew (And.intro hI21 (And.intro hOz hgT)))))
       clear hbox hres hnew hI21 hOz hgT hok1 hok2 ht21 hgl hsz1 hbz hg21 hr21
       go_wp2_with (go_at_call 179; refine (opnew_any s _ _ _ wz).mono ?_; rintro e W8 ⟨rfl, hB8⟩; have hb8 := (hB8.block T (gL H5.out.1)).trans H5.out.1; have x0 := cells_at hb8 0 _ rfl; have x1 := cells_at hb8 1 _ rfl; have x2 := cells_at hb8 2 _ rfl; have x3 := cells_at hb8 3 _ rfl; have hfz := row_frozen hb8; obtain ⟨W9, hW9, hr9, hb9, hz9, hk9⟩ := setTerm W8 T _ _ _ _ (.int .u8 5) (.int .i64 0) (.string s) (.slice (some ⟨g21, 0, none⟩) 2 2) _ hb8; have H9 := Hi (And.intro hr9 (And.intro hb9 (And.intro hz9 hk9))); have HB8 := Hi hB8; clear hB8 hb8 hr9 hb9 hz9 hk9)
       go_roundg k
       case measure => omega
       case rel =>
         obtain ⟨h1, h2, h3, h4, h5, h6⟩ := H5.out
         obtain ⟨hr9, hb9, hz9, hk9⟩ := H9.out
         have hTW : W.heap.size < T := by have := HZ2.out.2; have := HZ1.out; omega
         have hB8 := HB8.out
         exact ⟨opT s [t, u1], m1, some ⟨g21, 0, none⟩, 2, ⟨HEQ2.out, (h4.grow hB8).below hb9 HZ2.out.1, hr9, (hk9 W.heap.size (by omega)).trans ((hB8.block _ (gL h2)).trans h2), h3.keep fun b hf => ⟨⟨hf.1, by rw [hz9]; exact Nat.lt_of_lt_of_le hf.2.1 hB8.size, hf.2.2⟩, (hk9 b hf.2.2).trans (hB8.block b hf.2.1)⟩, ((HARG.out.on.trans h5).trans (On.of_below hB8)).fresh hb9 (by omega)⟩⟩
   | false =>
   have HD1 := Hi hD1
   clear hD1
   obtain ⟨D2, hD2⟩ : ∃ D, seesL l i ⟨#[47]⟩ = D := ⟨_, rfl⟩
   cases D2 with
   | true =>
     have HD2 := Hi hD2
     clear hD2
     have hfd := tok_field1
     have hmm : mulAt l i = true := by unfold mulAt; simp [HD1.out, HD2.out]
     have HLT := Hi (sees_pos (l := l) (n := i) HD2.out)
     obtain ⟨s, hst⟩ : ∃ s, pt l i = s := ⟨_, rfl⟩
     have HST := Hi hst
     have HSZ : Hid (s.size ≤ maxLen) := Hi (by rw [← hst]; exact HPS.out i)
     have heq := HEQ.out
     rw [hmm, if_pos rfl, hst] at heq
     cases hpi : factorP f l (i + 1) with
     | none => rw [hpi] at heq; cases heq
     | some x =>
     obtain ⟨u1, m1⟩ := x
     rw [hpi] at heq
     simp only at heq
     have HPI := Hi hpi
     have HEQ2 := Hi heq
     have hilt : i < 40000 := by have := HLT.out; have := HOKL.out; omega
     have hw : IntKind.i64.wrap ((i : Int) + 1) = (i : Int) + 1 := IntWalk.i64_in _ (by omega)
     clear heq hpi hmm hst HEQ
     go_wp2_with (first
         | (go_at_call 178; have hhe := here_any (HARG.out.ia.grow HSB2.out); rw [HST.out] at hhe; refine hhe.mono ?_; clear hhe; rintro e V8 ⟨⟨A, rfl⟩, hV8⟩
            have hI8 := (HARG.out.ia.grow HSB2.out).grow hV8
            obtain ⟨_, _, _, _, p1, _, _, _⟩ := hI8.cells
            have hff := hI8.frozen
            obtain ⟨W6, hW6, hI6, hO6⟩ := hI8.step HLT.out
            have HI6 := Hi hI6
            have HO6 := Hi (((On.of_below (P := P) HSB2.out).trans (On.of_below hV8)).trans hO6)
            clear hV8 hI8 hI6 hO6)
         | (go_at_call 177; have hsee := HSA.out ⟨#[47]⟩ _ HSB1.out; rw [HD2.out] at hsee; refine hsee.mono ?_; clear hsee; rintro e V2 ⟨rfl, hV2⟩; have HSB2 := Hi (HSB1.out.trans (hV2.mono HSB1.out.size)); clear hV2 HSB1)
         | (go_at_call 177; have hsee := HSA.out ⟨#[42]⟩ _ HSB.out; rw [HD1.out] at hsee; refine hsee.mono ?_; clear hsee; rintro e V1 ⟨rfl, hV1⟩; have HSB1 := Hi (HSB.out.trans (hV1.mono HSB.out.size)); clear hV1 HSB))
     have HTP : Hid (T ≠ P) := Hi (by have := HZ2.out.1; omega)
     refine wp_region_rel_tail (by kernel_rfl) 5 3 (On P) (fun _ _ h => On.of_below h) (fun _ _ _ h k => h.trans k) (fun _ _ h => h.size) (by decide) (FCh l P m1 s (.int .u8 t.kind) (.int .i64 t.num) (.string t.name) (.slice a t.args.length c) u1 W6) (by kernel_rfl) (by kernel_rfl) (steps_toR ?_) ?_
     · simp only [List.take_succ_cons, List.take_zero]
       refine ⟨?_, ?_, ?_, ?_, ?_, trivial⟩
       · intro ac wx hb he hd hs ho hp
         refine ⟨rfl, ?_⟩
         have h4 : ac.tmps.getD 4 undef = .string s := (ho 4 (by kernel_rfl)).trans rfl
         unfold Oper.wp
         go_simp
         exact SteppedR.at (v := .string s) (by first | rfl | simp) hd (show (0 : Nat) ≠ 3 by decide) bR rfl FCh_grow
       · intro ac wx hb he hd hs ho hp
         refine ⟨rfl, ?_⟩
         have h3 : ac.tmps.getD 3 undef = .pointer (some ⟨T, 0, none⟩) := (ho 3 (by kernel_rfl)).trans rfl
         have hx := (HO6.out.trans hb).row HARG.out.box HTP.out
         have x0 := cells_at hx 0 _ rfl
         have x1 := cells_at hx 1 _ rfl
         have x2 := cells_at hx 2 _ rfl
         have x3 := cells_at hx 3 _ rfl
         unfold Oper.wp
         go_simp
         exact SteppedR.at (v := .agg #[.int .u8 t.kind, .int .i64 t.num, .string t.name, .slice a t.args.length c]) (by first | rfl | simp) hd (show (1 : Nat) ≠ 3 by decide) bR rfl FCh_grow
       · intro ac wx hb he hd hs ho hp
         refine ⟨rfl, ?_⟩
         have h0 : ac.tmps.getD 0 undef = .pointer (some ⟨P, 0, none⟩) := (ho 0 (by kernel_rfl)).trans rfl
         unfold Oper.wp
         go_simp
         exact SteppedR.at (v := .pointer (some ⟨P, 0, none⟩)) (by first | rfl | simp) hd (show (2 : Nat) ≠ 3 by decide) bR rfl FCh_grow
       · intro ac wx hb he hd hs ho hp
         refine ⟨rfl, ?_⟩
         have h2 : ac.tmps.getD 29 undef = .pointer (some ⟨P, 0, none⟩) := facts_at hp 2 29 (by kernel_rfl)
         have hbe := he (Or.inl rfl)
         have hx := HF.out (i + 1) u1 m1 wx (HI6.out.grow hbe) HPI.out
         unfold Oper.wp
         go_simp
         go_at_call 202
         refine hx.mono ?_
         rintro e w' ⟨⟨a', cap', rfl, ht'⟩, hI', hO'⟩
         refine SteppedR.call (by first | rfl | simp) hd rfl hO' ⟨a', cap', rfl, ht'.keep fun b hf => ⟨⟨by have := hbe.size; omega, hf.2⟩, rfl⟩, hI'⟩ ?_
         intro j u hne hw hj
         match j, hj with
         | 0, h => exact h
         | 1, h => exact h
         | 2, h => exact h
         | 3, _ => exact absurd rfl hne
         | 4, _ => exact absurd (hw.symm.trans (by kernel_rfl)) Bool.false_ne_true
         | _ + 5, _ => trivial
       · intro ac wx hb he hd hs ho hp
         refine ⟨rfl, ?_⟩
         have h1 : ac.tmps.getD 28 undef = .agg #[.int .u8 t.kind, .int .i64 t.num, .string t.name, .slice a t.args.length c] := facts_at hp 1 28 (by kernel_rfl)
         obtain ⟨a20, c20, h20, ht20, hI20⟩ : CallF l P m1 u1 W6 (ac.tmps.getD 30 undef) wx := facts_at hp 3 30 (by kernel_rfl)
         have s1 := qslot_of (hs.trans (show _ = 34 from rfl)) (by decide) h1
         have s20 := qslot_of (hs.trans (show _ = 34 from rfl)) (by decide) h20
         unfold Oper.wp
         go_simp
         refine SteppedR.at rfl hd (show (4 : Nat) ≠ 3 by decide) (bR.alloc (Nat.le_refl _) _) ⟨a20, c20, wx.heap.size, rfl, hb.size, World.alloc_heap_new _ _, ht20.keep fun b hf => ⟨⟨hf.1, hf.2⟩, Below.heap_alloc _ _ _ hf.2⟩, hI20.grow (bR.alloc (Nat.le_refl _) _)⟩ FCh_grow
     · intro ac wz hbz hd hs2 ho2 hf
       have k0 : ac.tmps.getD 27 undef = .string s := facts_toR hf 0 27 (by decide) (by kernel_rfl)
       have k1 : ac.tmps.getD 28 undef = .agg #[.int .u8 t.kind, .int .i64 t.num, .string t.name, .slice a t.args.length c] := facts_toR hf 1 28 (by decide) (by kernel_rfl)
       have k2 : ac.tmps.getD 29 undef = .pointer (some ⟨P, 0, none⟩) := facts_toR hf 2 29 (by decide) (by kernel_rfl)
       obtain ⟨a21, c21, g21, k4, hg21, hr21, ht21, hI21⟩ : TwoF l P m1 #[.int .u8 t.kind, .int .i64 t.num, .string t.name, .slice a t.args.length c] u1 W6 (ac.tmps.getD 31 undef) wz := facts_toR hf 4 31 (by decide) (by kernel_rfl)
       obtain ⟨u3, k3⟩ : ∃ u, ac.tmps.getD 30 undef = u := ⟨_, rfl⟩
       have hE := slots_mergeR [false, false, false, false, false, false, false, false, false, false, false, false, false, false, false, false, false, false, false, false, false, false, false, false, false, false, false, true, true, true, true, true, false, false] 34 hs2 rfl (by kernel_rfl) ho2
       simp only [mergeFrom, Nat.zero_add, Nat.reduceAdd, k0, k1, k2, k3, k4] at hE
       obtain ⟨TT, DD⟩ := ac
       simp only at hE hd
       subst hd hE
       clear k0 k1 k2 k3 k4 hf hs2 ho2
       simp only [List.drop_succ_cons, List.drop_zero]
       have hOz := HO6.out.trans hbz
       have hbox := hOz.row HARG.out.box HTP.out
       have hres := hOz.row HARG.out.res (by have := HP.out; omega)
       have hgT : g21 ≠ T := by have := (gL HARG.out.box); have := HO6.out.size; omega
       have hgl := (gL hr21)
       have hsz1 : W1.heap.size ≤ wr.heap.size := by have := (gL HARG.out.box); have := HZ2.out.2; omega
       have hok1 : IsTmIn (fun b => W1.heap.size ≤ b ∧ b < wz.heap.size ∧ b ≠ T) wz (.int .u8 t.kind) (.int .i64 t.num) (.string t.name) (.slice a t.args.length c) t := HARG.out.tm.keep fun b hf => ⟨⟨hf.1, Nat.lt_of_lt_of_le hf.2.1 hOz.size, hf.2.2⟩, hOz.block b hf.2.1 (by have := HZ1.out; have := HP.out; have := hf.1; omega)⟩
       have hok2 : IsTmIn (fun b => W1.heap.size ≤ b ∧ b < wz.heap.size ∧ b ≠ T) wz _ _ _ _ u1 := ht21.keep fun b hf => ⟨⟨by have := HO6.out.size; omega, by omega, by have := (gL HARG.out.box); have := HO6.out.size; omega⟩, rfl⟩
       have hnew := twoTerm (k := 5) (s := s) (ok := fun b => W1.heap.size ≤ b ∧ b < wz.heap.size ∧ b ≠ T) hr21 hok1 hok2 ⟨by have := HO6.out.size; omega, hgl, hgT⟩ (by decide) HSZ.out
       have H5 := Hi (And.intro hbox (And.intro hres (And.intro hnew (And.intro hI21 (And.intro hOz hgT)))))
       clear hbox hres hnew hI21 hOz hgT hok1 hok2 ht21 hgl hsz1 hbz hg21 hr21
       go_wp2_with (go_at_call 179; refine (opnew_any s _ _ _ wz).mono ?_; rintro e W8 ⟨rfl, hB8⟩; have hb8 := (hB8.block T (gL H5.out.1)).trans H5.out.1; have x0 := cells_at hb8 0 _ rfl; have x1 := cells_at hb8 1 _ rfl; have x2 := cells_at hb8 2 _ rfl; have x3 := cells_at hb8 3 _ rfl; have hfz := row_frozen hb8; obtain ⟨W9, hW9, hr9, hb9, hz9, hk9⟩ := setTerm W8 T _ _ _ _ (.int .u8 5) (.int .i64 0) (.string s) (.slice (some ⟨g21, 0, none⟩) 2 2) _ hb8; have H9 := Hi (And.intro hr9 (And.intro hb9 (And.intro hz9 hk9))); have HB8 := Hi hB8; clear hB8 hb8 hr9 hb9 hz9 hk9)
       go_roundg k
       case measure => omega
       case rel =>
         obtain ⟨h1, h2, h3, h4, h5, h6⟩ := H5.out
         obtain ⟨hr9, hb9, hz9, hk9⟩ := H9.out
         have hTW : W.heap.size < T := by have := HZ2.out.2; have := HZ1.out; omega
         have hB8 := HB8.out
         exact ⟨opT s [t, u1], m1, some ⟨g21, 0, none⟩, 2, ⟨HEQ2.out, (h4.grow hB8).below hb9 HZ2.out.1, hr9, (hk9 W.heap.size (by omega)).trans ((hB8.block _ (gL h2)).trans h2), h3.keep fun b hf => ⟨⟨hf.1, by rw [hz9]; exact Nat.lt_of_lt_of_le hf.2.1 hB8.size, hf.2.2⟩, (hk9 b hf.2.2).trans (hB8.block b hf.2.1)⟩, ((HARG.out.on.trans h5).trans (On.of_below hB8)).fresh hb9 (by omega)⟩⟩
   | false =>
   have HD2 := Hi hD2
   clear hD2
   obtain ⟨D3, hD3⟩ : ∃ D, seesL l i ⟨#[92]⟩ = D := ⟨_, rfl⟩
   cases D3 with
   | true =>
     have HD3 := Hi hD3
     clear hD3
     have hfd := tok_field1
     have hmm : mulAt l i = true := by unfold mulAt; simp [HD1.out, HD2.out, HD3.out]
     have HLT := Hi (sees_pos (l := l) (n := i) HD3.out)
     obtain ⟨s, hst⟩ : ∃ s, pt l i = s := ⟨_, rfl⟩
     have HST := Hi hst
     have HSZ : Hid (s.size ≤ maxLen) := Hi (by rw [← hst]; exact HPS.out i)
     have heq := HEQ.out
     rw [hmm, if_pos rfl, hst] at heq
     cases hpi : factorP f l (i + 1) with
     | none => rw [hpi] at heq; cases heq
     | some x =>
     obtain ⟨u1, m1⟩ := x
     rw [hpi] at heq
     simp only at heq
     have HPI := Hi hpi
     have HEQ2 := Hi heq
     have hilt : i < 40000 := by have := HLT.out; have := HOKL.out; omega
     have hw : IntKind.i64.wrap ((i : Int) + 1) = (i : Int) + 1 := IntWalk.i64_in _ (by omega)
     clear heq hpi hmm hst HEQ
     go_wp2_with (first
         | (go_at_call 178; have hhe := here_any (HARG.out.ia.grow HSB3.out); rw [HST.out] at hhe; refine hhe.mono ?_; clear hhe; rintro e V8 ⟨⟨A, rfl⟩, hV8⟩
            have hI8 := (HARG.out.ia.grow HSB3.out).grow hV8
            obtain ⟨_, _, _, _, p1, _, _, _⟩ := hI8.cells
            have hff := hI8.frozen
            obtain ⟨W6, hW6, hI6, hO6⟩ := hI8.step HLT.out
            have HI6 := Hi hI6
            have HO6 := Hi (((On.of_below (P := P) HSB3.out).trans (On.of_below hV8)).trans hO6)
            clear hV8 hI8 hI6 hO6)
         | (go_at_call 177; have hsee := HSA.out ⟨#[92]⟩ _ HSB2.out; rw [HD3.out] at hsee; refine hsee.mono ?_; clear hsee; rintro e V3 ⟨rfl, hV3⟩; have HSB3 := Hi (HSB2.out.trans (hV3.mono HSB2.out.size)); clear hV3 HSB2)
         | (go_at_call 177; have hsee := HSA.out ⟨#[47]⟩ _ HSB1.out; rw [HD2.out] at hsee; refine hsee.mono ?_; clear hsee; rintro e V2 ⟨rfl, hV2⟩; have HSB2 := Hi (HSB1.out.trans (hV2.mono HSB1.out.size)); clear hV2 HSB1)
         | (go_at_call 177; have hsee := HSA.out ⟨#[42]⟩ _ HSB.out; rw [HD1.out] at hsee; refine hsee.mono ?_; clear hsee; rintro e V1 ⟨rfl, hV1⟩; have HSB1 := Hi (HSB.out.trans (hV1.mono HSB.out.size)); clear hV1 HSB))
     have HTP : Hid (T ≠ P) := Hi (by have := HZ2.out.1; omega)
     refine wp_region_rel_tail (by kernel_rfl) 5 3 (On P) (fun _ _ h => On.of_below h) (fun _ _ _ h k => h.trans k) (fun _ _ h => h.size) (by decide) (FCh l P m1 s (.int .u8 t.kind) (.int .i64 t.num) (.string t.name) (.slice a t.args.length c) u1 W6) (by kernel_rfl) (by kernel_rfl) (steps_toR ?_) ?_
     · simp only [List.take_succ_cons, List.take_zero]
       refine ⟨?_, ?_, ?_, ?_, ?_, trivial⟩
       · intro ac wx hb he hd hs ho hp
         refine ⟨rfl, ?_⟩
         have h4 : ac.tmps.getD 4 undef = .string s := (ho 4 (by kernel_rfl)).trans rfl
         unfold Oper.wp
         go_simp
         exact SteppedR.at (v := .string s) (by first | rfl | simp) hd (show (0 : Nat) ≠ 3 by decide) bR rfl FCh_grow
       · intro ac wx hb he hd hs ho hp
         refine ⟨rfl, ?_⟩
         have h3 : ac.tmps.getD 3 undef = .pointer (some ⟨T, 0, none⟩) := (ho 3 (by kernel_rfl)).trans rfl
         have hx := (HO6.out.trans hb).row HARG.out.box HTP.out
         have x0 := cells_at hx 0 _ rfl
         have x1 := cells_at hx 1 _ rfl
         have x2 := cells_at hx 2 _ rfl
         have x3 := cells_at hx 3 _ rfl
         unfold Oper.wp
         go_simp
         exact SteppedR.at (v := .agg #[.int .u8 t.kind, .int .i64 t.num, .string t.name, .slice a t.args.length c]) (by first | rfl | simp) hd (show (1 : Nat) ≠ 3 by decide) bR rfl FCh_grow
       · intro ac wx hb he hd hs ho hp
         refine ⟨rfl, ?_⟩
         have h0 : ac.tmps.getD 0 undef = .pointer (some ⟨P, 0, none⟩) := (ho 0 (by kernel_rfl)).trans rfl
         unfold Oper.wp
         go_simp
         exact SteppedR.at (v := .pointer (some ⟨P, 0, none⟩)) (by first | rfl | simp) hd (show (2 : Nat) ≠ 3 by decide) bR rfl FCh_grow
       · intro ac wx hb he hd hs ho hp
         refine ⟨rfl, ?_⟩
         have h2 : ac.tmps.getD 29 undef = .pointer (some ⟨P, 0, none⟩) := facts_at hp 2 29 (by kernel_rfl)
         have hbe := he (Or.inl rfl)
         have hx := HF.out (i + 1) u1 m1 wx (HI6.out.grow hbe) HPI.out
         unfold Oper.wp
         go_simp
         go_at_call 202
         refine hx.mono ?_
         rintro e w' ⟨⟨a', cap', rfl, ht'⟩, hI', hO'⟩
         refine SteppedR.call (by first | rfl | simp) hd rfl hO' ⟨a', cap', rfl, ht'.keep fun b hf => ⟨⟨by have := hbe.size; omega, hf.2⟩, rfl⟩, hI'⟩ ?_
         intro j u hne hw hj
         match j, hj with
         | 0, h => exact h
         | 1, h => exact h
         | 2, h => exact h
         | 3, _ => exact absurd rfl hne
         | 4, _ => exact absurd (hw.symm.trans (by kernel_rfl)) Bool.false_ne_true
         | _ + 5, _ => trivial
       · intro ac wx hb he hd hs ho hp
         refine ⟨rfl, ?_⟩
         have h1 : ac.tmps.getD 28 undef = .agg #[.int .u8 t.kind, .int .i64 t.num, .string t.name, .slice a t.args.length c] := facts_at hp 1 28 (by kernel_rfl)
         obtain ⟨a20, c20, h20, ht20, hI20⟩ : CallF l P m1 u1 W6 (ac.tmps.getD 30 undef) wx := facts_at hp 3 30 (by kernel_rfl)
         have s1 := qslot_of (hs.trans (show _ = 34 from rfl)) (by decide) h1
         have s20 := qslot_of (hs.trans (show _ = 34 from rfl)) (by decide) h20
         unfold Oper.wp
         go_simp
         refine SteppedR.at rfl hd (show (4 : Nat) ≠ 3 by decide) (bR.alloc (Nat.le_refl _) _) ⟨a20, c20, wx.heap.size, rfl, hb.size, World.alloc_heap_new _ _, ht20.keep fun b hf => ⟨⟨hf.1, hf.2⟩, Below.heap_alloc _ _ _ hf.2⟩, hI20.grow (bR.alloc (Nat.le_refl _) _)⟩ FCh_grow
     · intro ac wz hbz hd hs2 ho2 hf
       have k0 : ac.tmps.getD 27 undef = .string s := facts_toR hf 0 27 (by decide) (by kernel_rfl)
       have k1 : ac.tmps.getD 28 undef = .agg #[.int .u8 t.kind, .int .i64 t.num, .string t.name, .slice a t.args.length c] := facts_toR hf 1 28 (by decide) (by kernel_rfl)
       have k2 : ac.tmps.getD 29 undef = .pointer (some ⟨P, 0, none⟩) := facts_toR hf 2 29 (by decide) (by kernel_rfl)
       obtain ⟨a21, c21, g21, k4, hg21, hr21, ht21, hI21⟩ : TwoF l P m1 #[.int .u8 t.kind, .int .i64 t.num, .string t.name, .slice a t.args.length c] u1 W6 (ac.tmps.getD 31 undef) wz := facts_toR hf 4 31 (by decide) (by kernel_rfl)
       obtain ⟨u3, k3⟩ : ∃ u, ac.tmps.getD 30 undef = u := ⟨_, rfl⟩
       have hE := slots_mergeR [false, false, false, false, false, false, false, false, false, false, false, false, false, false, false, false, false, false, false, false, false, false, false, false, false, false, false, true, true, true, true, true, false, false] 34 hs2 rfl (by kernel_rfl) ho2
       simp only [mergeFrom, Nat.zero_add, Nat.reduceAdd, k0, k1, k2, k3, k4] at hE
       obtain ⟨TT, DD⟩ := ac
       simp only at hE hd
       subst hd hE
       clear k0 k1 k2 k3 k4 hf hs2 ho2
       simp only [List.drop_succ_cons, List.drop_zero]
       have hOz := HO6.out.trans hbz
       have hbox := hOz.row HARG.out.box HTP.out
       have hres := hOz.row HARG.out.res (by have := HP.out; omega)
       have hgT : g21 ≠ T := by have := (gL HARG.out.box); have := HO6.out.size; omega
       have hgl := (gL hr21)
       have hsz1 : W1.heap.size ≤ wr.heap.size := by have := (gL HARG.out.box); have := HZ2.out.2; omega
       have hok1 : IsTmIn (fun b => W1.heap.size ≤ b ∧ b < wz.heap.size ∧ b ≠ T) wz (.int .u8 t.kind) (.int .i64 t.num) (.string t.name) (.slice a t.args.length c) t := HARG.out.tm.keep fun b hf => ⟨⟨hf.1, Nat.lt_of_lt_of_le hf.2.1 hOz.size, hf.2.2⟩, hOz.block b hf.2.1 (by have := HZ1.out; have := HP.out; have := hf.1; omega)⟩
       have hok2 : IsTmIn (fun b => W1.heap.size ≤ b ∧ b < wz.heap.size ∧ b ≠ T) wz _ _ _ _ u1 := ht21.keep fun b hf => ⟨⟨by have := HO6.out.size; omega, by omega, by have := (gL HARG.out.box); have := HO6.out.size; omega⟩, rfl⟩
       have hnew := twoTerm (k := 5) (s := s) (ok := fun b => W1.heap.size ≤ b ∧ b < wz.heap.size ∧ b ≠ T) hr21 hok1 hok2 ⟨by have := HO6.out.size; omega, hgl, hgT⟩ (by decide) HSZ.out
       have H5 := Hi (And.intro hbox (And.intro hres (And.intro hnew (And.intro hI21 (And.intro hOz hgT)))))
       clear hbox hres hnew hI21 hOz hgT hok1 hok2 ht21 hgl hsz1 hbz hg21 hr21
       go_wp2_with (go_at_call 179; refine (opnew_any s _ _ _ wz).mono ?_; rintro e W8 ⟨rfl, hB8⟩; have hb8 := (hB8.block T (gL H5.out.1)).trans H5.out.1; have x0 := cells_at hb8 0 _ rfl; have x1 := cells_at hb8 1 _ rfl; have x2 := cells_at hb8 2 _ rfl; have x3 := cells_at hb8 3 _ rfl; have hfz := row_frozen hb8; obtain ⟨W9, hW9, hr9, hb9, hz9, hk9⟩ := setTerm W8 T _ _ _ _ (.int .u8 5) (.int .i64 0) (.string s) (.slice (some ⟨g21, 0, none⟩) 2 2) _ hb8; have H9 := Hi (And.intro hr9 (And.intro hb9 (And.intro hz9 hk9))); have HB8 := Hi hB8; clear hB8 hb8 hr9 hb9 hz9 hk9)
       go_roundg k
       case measure => omega
       case rel =>
         obtain ⟨h1, h2, h3, h4, h5, h6⟩ := H5.out
         obtain ⟨hr9, hb9, hz9, hk9⟩ := H9.out
         have hTW : W.heap.size < T := by have := HZ2.out.2; have := HZ1.out; omega
         have hB8 := HB8.out
         exact ⟨opT s [t, u1], m1, some ⟨g21, 0, none⟩, 2, ⟨HEQ2.out, (h4.grow hB8).below hb9 HZ2.out.1, hr9, (hk9 W.heap.size (by omega)).trans ((hB8.block _ (gL h2)).trans h2), h3.keep fun b hf => ⟨⟨hf.1, by rw [hz9]; exact Nat.lt_of_lt_of_le hf.2.1 hB8.size, hf.2.2⟩, (hk9 b hf.2.2).trans (hB8.block b hf.2.1)⟩, ((HARG.out.on.trans h5).trans (On.of_below hB8)).fresh hb9 (by omega)⟩⟩
   | false =>
   have HD3 := Hi hD3
   clear hD3
   have hmm : mulAt l i = false := by unfold mulAt; simp [HD1.out, HD2.out, HD3.out]
   have heq := HEQ.out
   rw [hmm, if_neg Bool.false_ne_true] at heq
   simp only [Option.some.injEq, Prod.mk.injEq] at heq
   obtain ⟨rfl, rfl⟩ := heq
   clear hmm HEQ
   go_wp2_with (first
     | (go_at_call 177; have hsee := HSA.out ⟨#[92]⟩ _ HSB2.out; rw [HD3.out] at hsee; refine hsee.mono ?_; clear hsee; rintro e V3 ⟨rfl, hV3⟩; have HSB3 := Hi (HSB2.out.trans (hV3.mono HSB2.out.size)); clear hV3 HSB2; have hO := On.of_below (P := P) HSB3.out; have hbx := hO.row HARG.out.box (by have := HZ2.out.1; omega); have z0 := cells_at hbx 0 _ rfl; have z1 := cells_at hbx 1 _ rfl; have z2 := cells_at hbx 2 _ rfl; have z3 := cells_at hbx 3 _ rfl; have hro := hO.row HARG.out.res (by have := HP.out; omega); have o0 := cells_at hro 0 _ rfl; have o1 := cells_at hro 1 _ rfl; have o2 := cells_at hro 2 _ rfl; have o3 := cells_at hro 3 _ rfl; have hff := row_frozen hro; obtain ⟨W9, hW9, hr9, hb9, hz9, hk9⟩ := setTerm V3 W.heap.size _ _ _ _ (.int .u8 t.kind) (.int .i64 t.num) (.string t.name) (.slice a t.args.length c) _ hro; have HR9 := Hi hr9; have HB9 := Hi (And.intro hb9 (And.intro hz9 hk9)); have HO := Hi hO; clear hbx hro hr9 hb9 hz9 hk9 hO)
     | (go_at_call 177; have hsee := HSA.out ⟨#[47]⟩ _ HSB1.out; rw [HD2.out] at hsee; refine hsee.mono ?_; clear hsee; rintro e V2 ⟨rfl, hV2⟩; have HSB2 := Hi (HSB1.out.trans (hV2.mono HSB1.out.size)); clear hV2 HSB1)
     | (go_at_call 177; have hsee := HSA.out ⟨#[42]⟩ _ HSB.out; rw [HD1.out] at hsee; refine hsee.mono ?_; clear hsee; rintro e V1 ⟨rfl, hV1⟩; have HSB1 := Hi (HSB.out.trans (hV1.mono HSB.out.size)); clear hV1 HSB))
   refine bodyPost_ret (v := .agg #[.int .u8 t.kind, .int .i64 t.num, .string t.name, .slice a t.args.length c]) (by simp [results, Tryz.f176, go_sem, cells_at HR9.out 0 _ rfl, cells_at HR9.out 1 _ rfl, cells_at HR9.out 2 _ rfl, cells_at HR9.out 3 _ rfl]) rfl ?_
   obtain ⟨hb9, hz9, hk9⟩ := HB9.out
   exact ⟨⟨_, _, rfl, HARG.out.tm.keep fun b hf => ⟨⟨by have := HZ1.out; omega, by rw [hz9]; exact Nat.lt_of_lt_of_le hf.2.1 HO.out.size⟩, (hk9 b (by have := HZ1.out; omega)).trans (HO.out.block b hf.2.1 (by have := HP.out; have := HZ1.out; omega))⟩⟩, (HARG.out.ia.grow HSB3.out).below (hb9.mono (Nat.le_refl _)) HP.out, (HARG.out.on.trans HO.out).fresh hb9 (Nat.le_refl _)⟩
theorem sum_step {l : List Tk} {P f : Nat} (hf : PC l P 176 (fun i => productP f l i)) : PC l P 150 (fun i => sumP (f + 1) l i) := by
 intro n t m W h hr
 simp only [sumP] at hr
 split at hr
 · cases hr
 · rename_i t0 m0 h0
   exact sum_chain hf h h0 hr
theorem product_step {l : List Tk} {P f : Nat} (hf : PC l P 202 (fun i => factorP f l i)) : PC l P 176 (fun i => productP (f + 1) l i) := by
 intro n t m W h hr
 simp only [productP] at hr
 split at hr
 · cases hr
 · rename_i t0 m0 h0
   exact product_chain hf h h0 hr
end Go.Proofs.YtlmdhlckgbgfhaaGreatDoor
namespace Go.Proofs.YtlmdhlckgbgfhaaGreatDoor
open Go.RowKit Go.Shelf
attribute [local go_sem] Oper.semAt_some

def FBp (l : List Tk) (P m : Nat) (c0 c1 c2 c3 : Value) (t : Tm) (w0 : World) : Facts := fun i v w => match i with
 | 0 => v = .agg #[c0, c1, c2, c3]
 | 1 => v = .pointer (some ⟨P, 0, none⟩)
 | 2 => CallF l P m t w0 v w
 | _ => True
theorem FBp_grow {l : List Tk} {P m : Nat} {c0 c1 c2 c3 : Value} {t : Tm} {w0 : World} (i : Nat) (v : Value) (w w' : World) (h : FBp l P m c0 c1 c2 c3 t w0 i v w) (hb : Below w.heap.size w w') : FBp l P m c0 c1 c2 c3 t w0 i v w' := by
 match i, h with
 | 0, h => exact h
 | 1, h => exact h
 | 2, h => exact CallF.grow h hb
 | _ + 3, _ => trivial
theorem part_one {l : List Tk} {P f : Nat} (hf : PC l P 150 (fun i => sumP f l i)) {n : Nat} {W : World} (h : InAt l P n W) {t : Tm} {m0 : Nat} (h0 : sumP f l n = some (t, m0)) (hd0 : seesL l m0 ⟨#[46, 46]⟩ = false) :
   Calls Tryz.prog 107 #[.pointer (some ⟨P, 0, none⟩)] W (PPost l P m0 t W) := by
 obtain ⟨W1, hW1, hr1, hb1, hz1⟩ := rowTerm W (.int .u8 0) (.int .i64 0) (.string ⟨#[]⟩) (.slice none 0 0)
 have HK := Hi (hf _ _ _ W1 (h.grow hb1) h0)
 have HR1 := Hi hr1
 have HB1 := Hi hb1
 have HP := Hi h.lt
 have HZ1 := Hi hz1
 have HF := Hi hf
 have HD := Hi hd0
 clear h hf h0 hd0 hr1 hb1 hz1
 go_enter Tryz.func107, Tryz.ntmps107
 go_wp2_with (first
   | (go_at_call 150; refine HK.out.mono ?_; clear HK; rintro e W2 ⟨⟨a, c, rfl, ht2⟩, hI2, hO2⟩
      obtain ⟨W3, hW3, hr3, hb3, hz3⟩ := rowTerm W2 (.int .u8 t.kind) (.int .i64 t.num) (.string t.name) (.slice a t.args.length c)
      have HIS := Hi (is_any (hI2.grow hb3) ⟨#[46, 46]⟩)
      have HO3 := Hi (hO2.trans (On.of_below hb3))
      have HZ2 := Hi (And.intro hI2.lt hO2.size)
      have HR3 := Hi hr3
      have HT3 := Hi (show IsTmIn (fun b => W1.heap.size ≤ b ∧ b < W3.heap.size ∧ b ≠ W2.heap.size) W3 _ _ _ _ t from ht2.keep fun b hf => ⟨⟨hf.1, by omega, by omega⟩, hb3.block b hf.2⟩)
      have HW3 := Hi hW3
      clear ht2 hI2 hO2 hr3 hb3 hz3 hW3)
   | (go_at_call 151; rw [HD.out] at HIS; rw [HW3.out]; refine HIS.out.mono ?_; clear HIS HW3; rintro e W4 ⟨rfl, hO4, hI4⟩
      rw [if_neg Bool.false_ne_true] at hI4
      have HOE := Hi (HO3.out.trans hO4)
      have hr4 := hO4.row HR3.out (by have := HZ2.out.1; omega)
      have u0 := cells_at hr4 0 _ rfl
      have u1 := cells_at hr4 1 _ rfl
      have u2 := cells_at hr4 2 _ rfl
      have u3 := cells_at hr4 3 _ rfl
      have HIE := Hi hI4
      have HT4 := Hi (show IsTmIn (fun b => W1.heap.size ≤ b ∧ b < W4.heap.size) W4 _ _ _ _ t from HT3.out.keep fun b hf => ⟨⟨hf.1, Nat.lt_of_lt_of_le hf.2.1 hO4.size⟩, hO4.block b hf.2.1 (by have := HP.out; have := HZ1.out; have := hf.1; omega)⟩)
      clear hO4 hI4 hr4
      have hro := HOE.out.row HR1.out (by have := HP.out; omega)
      have o0 := cells_at hro 0 _ rfl
      have o1 := cells_at hro 1 _ rfl
      have o2 := cells_at hro 2 _ rfl
      have o3 := cells_at hro 3 _ rfl
      have hff := row_frozen hro
      obtain ⟨W9, hW9, hr9, hb9, hz9, hk9⟩ := setTerm W4 W.heap.size _ _ _ _ (.int .u8 t.kind) (.int .i64 t.num) (.string t.name) (.slice a t.args.length c) _ hro
      have HR9 := Hi hr9
      have HB9 := Hi (And.intro hb9 (And.intro hz9 hk9))
      clear hro hr9 hb9 hz9 hk9))
 refine bodyPost_ret (v := .agg #[.int .u8 t.kind, .int .i64 t.num, .string t.name, .slice a t.args.length c]) (by simp [results, Tryz.f107, go_sem, cells_at HR9.out 0 _ rfl, cells_at HR9.out 1 _ rfl, cells_at HR9.out 2 _ rfl, cells_at HR9.out 3 _ rfl]) rfl ?_
 obtain ⟨hb9, hz9, hk9⟩ := HB9.out
 exact ⟨⟨_, _, rfl, HT4.out.keep fun b hf => ⟨⟨by have := HZ1.out; omega, by rw [hz9]; exact hf.2⟩, hk9 b (by have := HZ1.out; have := hf.1; omega)⟩⟩, HIE.out.below (hb9.mono (Nat.le_refl _)) HP.out, ((On.of_below HB1.out).trans HOE.out).fresh hb9 (Nat.le_refl _)⟩
theorem part_two {l : List Tk} {P f : Nat} (hf : PC l P 150 (fun i => sumP f l i)) {n : Nat} {W : World} (h : InAt l P n W) {t : Tm} {m0 : Nat} (h0 : sumP f l n = some (t, m0)) (hd0 : seesL l m0 ⟨#[46, 46]⟩ = true) {u : Tm} {m : Nat} (hpi : sumP f l (m0 + 1) = some (u, m)) :
   Calls Tryz.prog 107 #[.pointer (some ⟨P, 0, none⟩)] W (PPost l P m (.mk 6 0 ⟨#[]⟩ [t, u]) W) := by
 obtain ⟨W1, hW1, hr1, hb1, hz1⟩ := rowTerm W (.int .u8 0) (.int .i64 0) (.string ⟨#[]⟩) (.slice none 0 0)
 have HK := Hi (hf _ _ _ W1 (h.grow hb1) h0)
 have HR1 := Hi hr1
 have HB1 := Hi hb1
 have HP := Hi h.lt
 have HZ1 := Hi hz1
 have HF := Hi hf
 have HD := Hi hd0
 have HPI := Hi hpi
 clear hpi
 clear h hf h0 hd0 hr1 hb1 hz1
 go_enter Tryz.func107, Tryz.ntmps107
 go_wp2_with (first
   | (go_at_call 150; refine HK.out.mono ?_; clear HK; rintro e W2 ⟨⟨a, c, rfl, ht2⟩, hI2, hO2⟩
      obtain ⟨W3, hW3, hr3, hb3, hz3⟩ := rowTerm W2 (.int .u8 t.kind) (.int .i64 t.num) (.string t.name) (.slice a t.args.length c)
      have HIS := Hi (is_any (hI2.grow hb3) ⟨#[46, 46]⟩)
      have HO3 := Hi (hO2.trans (On.of_below hb3))
      have HZ2 := Hi (And.intro hI2.lt hO2.size)
      have HR3 := Hi hr3
      have HT3 := Hi (show IsTmIn (fun b => W1.heap.size ≤ b ∧ b < W3.heap.size ∧ b ≠ W2.heap.size) W3 _ _ _ _ t from ht2.keep fun b hf => ⟨⟨hf.1, by omega, by omega⟩, hb3.block b hf.2⟩)
      have HW3 := Hi hW3
      clear ht2 hI2 hO2 hr3 hb3 hz3 hW3)
   | (go_at_call 151; rw [HD.out] at HIS; rw [HW3.out]; refine HIS.out.mono ?_; clear HIS HW3; rintro e W4 ⟨rfl, hO4, hI4⟩
      rw [if_pos rfl] at hI4
      have HO4 := Hi (HO3.out.trans hO4)
      have HR4 := Hi (hO4.row HR3.out (by have := HZ2.out.1; omega))
      have HI4 := Hi hI4
      have HT4 := Hi (show IsTmIn (fun b => W1.heap.size ≤ b ∧ b < W4.heap.size ∧ b ≠ W2.heap.size) W4 _ _ _ _ t from HT3.out.keep fun b hf => ⟨⟨hf.1, Nat.lt_of_lt_of_le hf.2.1 hO4.size, hf.2.2⟩, hO4.block b hf.2.1 (by have := HP.out; have := HZ1.out; have := hf.1; omega)⟩)
      clear hO4 hI4))
 obtain ⟨T, hT⟩ : ∃ T, W2.heap.size = T := ⟨_, rfl⟩
 rw [hT] at HR4 HT4 HZ2 ⊢
 have HTP : Hid (T ≠ P) := Hi (by have := HZ2.out.1; omega)
 clear hT HT3 HR3
 refine wp_region_rel_tail (by kernel_rfl) 3 2 (On P) (fun _ _ h => On.of_below h) (fun _ _ _ h k => h.trans k) (fun _ _ h => h.size) (by decide) (FBp l P m (.int .u8 t.kind) (.int .i64 t.num) (.string t.name) (.slice a t.args.length c) u W4) (by kernel_rfl) (by kernel_rfl) (steps_toR ?_) ?_
 · simp only [List.take_succ_cons, List.take_zero]
   refine ⟨?_, ?_, ?_, trivial⟩
   · intro ac wx hb he hd hs ho hp
     refine ⟨rfl, ?_⟩
     have h3 : ac.tmps.getD 3 undef = .pointer (some ⟨T, 0, none⟩) := (ho 3 (by kernel_rfl)).trans rfl
     have hx := hb.row HR4.out HTP.out
     have x0 := cells_at hx 0 _ rfl
     have x1 := cells_at hx 1 _ rfl
     have x2 := cells_at hx 2 _ rfl
     have x3 := cells_at hx 3 _ rfl
     unfold Oper.wp
     go_simp
     exact SteppedR.at (v := .agg #[.int .u8 t.kind, .int .i64 t.num, .string t.name, .slice a t.args.length c]) (by first | rfl | simp) hd (show (0 : Nat) ≠ 2 by decide) bR rfl FBp_grow
   · intro ac wx hb he hd hs ho hp
     refine ⟨rfl, ?_⟩
     have h0 : ac.tmps.getD 0 undef = .pointer (some ⟨P, 0, none⟩) := (ho 0 (by kernel_rfl)).trans rfl
     unfold Oper.wp
     go_simp
     exact SteppedR.at (v := .pointer (some ⟨P, 0, none⟩)) (by first | rfl | simp) hd (show (1 : Nat) ≠ 2 by decide) bR rfl FBp_grow
   · intro ac wx hb he hd hs ho hp
     refine ⟨rfl, ?_⟩
     have h2 : ac.tmps.getD 9 undef = .pointer (some ⟨P, 0, none⟩) := facts_at hp 1 9 (by kernel_rfl)
     have hbe := he (Or.inl rfl)
     have hx := HF.out (m0 + 1) u m wx (HI4.out.grow hbe) HPI.out
     unfold Oper.wp
     go_simp
     go_at_call 150
     refine hx.mono ?_
     rintro e w' ⟨⟨a', cap', rfl, ht'⟩, hI', hO'⟩
     refine SteppedR.call (by first | rfl | simp) hd rfl hO' ⟨a', cap', rfl, ht'.keep fun b hf => ⟨⟨by have := hbe.size; omega, hf.2⟩, rfl⟩, hI'⟩ ?_
     intro j u hne hw hj
     match j, hj with
     | 0, h => exact h
     | 1, h => exact h
     | 2, _ => exact absurd rfl hne
     | _ + 3, _ => trivial
 · intro ac wz hbz hd hs2 ho2 hf
   have k0 : ac.tmps.getD 8 undef = .agg #[.int .u8 t.kind, .int .i64 t.num, .string t.name, .slice a t.args.length c] := facts_toR hf 0 8 (by decide) (by kernel_rfl)
   have k1 : ac.tmps.getD 9 undef = .pointer (some ⟨P, 0, none⟩) := facts_toR hf 1 9 (by decide) (by kernel_rfl)
   obtain ⟨a10, c10, k2, ht10, hI10⟩ : CallF l P m u W4 (ac.tmps.getD 10 undef) wz := facts_toR hf 2 10 (by decide) (by kernel_rfl)
   have hE := slots_mergeR [false, false, false, false, false, false, false, false, true, true, true, false, false, false] 14 hs2 rfl (by kernel_rfl) ho2
   simp only [mergeFrom, Nat.zero_add, Nat.reduceAdd, k0, k1, k2] at hE
   obtain ⟨TT, DD⟩ := ac
   simp only at hE hd
   subst hd hE
   clear k0 k1 k2 hf hs2 ho2
   simp only [List.drop_succ_cons, List.drop_zero]
   obtain ⟨W5, hW5, hr5, hb5⟩ : ∃ W5, wz.alloc (.cells #[.int .u8 t.kind, .int .i64 t.num, .string t.name, .slice a t.args.length c, .int .u8 u.kind, .int .i64 u.num, .string u.name, .slice a10 u.args.length c10] 24) = W5 ∧ W5.heap[wz.heap.size]? = some (.cells #[.int .u8 t.kind, .int .i64 t.num, .string t.name, .slice a t.args.length c, .int .u8 u.kind, .int .i64 u.num, .string u.name, .slice a10 u.args.length c10] 24 (0, 0)) ∧ Below wz.heap.size wz W5 :=
     ⟨_, rfl, World.alloc_heap_new _ _, bR.alloc (Nat.le_refl _) _⟩
   have hz5 : W5.heap.size = wz.heap.size + 1 := by rw [← hW5]; simp
   have hO5 := hbz.trans (On.of_below (P := P) hb5)
   have hT5 := hO5.row HR4.out HTP.out
   have hTl := (gL HR4.out)
   have hTW : W.heap.size < T := by have := HZ2.out.2; have := HZ1.out; omega
   have hq := setTerm W5 T _ _ _ _ (.int .u8 6) (.int .i64 0) (.string ⟨#[]⟩) (.slice (some ⟨wz.heap.size, 0, none⟩) 2 2) _ hT5
   obtain ⟨W6, hW6, hr6, hb6, hz6, hk6⟩ := hq
   have y0 := cells_at hT5 0 _ rfl
   have y1 := cells_at hT5 1 _ rfl
   have y2 := cells_at hT5 2 _ rfl
   have y3 := cells_at hT5 3 _ rfl
   have hfy := row_frozen hT5
   have u0 := cells_at hr6 0 _ rfl
   have u1 := cells_at hr6 1 _ rfl
   have u2 := cells_at hr6 2 _ rfl
   have u3 := cells_at hr6 3 _ rfl
   have hok1 : IsTmIn (fun b => W1.heap.size ≤ b ∧ b < W5.heap.size ∧ b ≠ T) W5 _ _ _ _ t := HT4.out.keep fun b hf => ⟨⟨hf.1, Nat.lt_of_lt_of_le hf.2.1 hO5.size, hf.2.2⟩, hO5.block b hf.2.1 (by have := HP.out; have := HZ1.out; have := hf.1; omega)⟩
   have hok2 : IsTmIn (fun b => W1.heap.size ≤ b ∧ b < W5.heap.size ∧ b ≠ T) W5 _ _ _ _ u := ht10.keep fun b hf => ⟨⟨by have := HZ2.out.2; omega, by omega, by omega⟩, hb5.block b hf.2⟩
   have hnew := twoTerm (k := 6) (s := ⟨#[]⟩) (ok := fun b => W1.heap.size ≤ b ∧ b < W5.heap.size ∧ b ≠ T) hr5 hok1 hok2 ⟨by have := HZ2.out.2; have := hbz.size; omega, by omega, by have := hbz.size; omega⟩ (by decide) (by unfold maxLen; decide)
   have HNEW := Hi (hnew.keep fun b hf => ⟨⟨hf.1, by rw [hz6]; exact hf.2.1⟩, hk6 b hf.2.2⟩ : IsTmIn (fun b => W1.heap.size ≤ b ∧ b < W6.heap.size) W6 _ _ _ _ _)
   have HIE := Hi ((hI10.grow hb5).below hb6 (show P < T from HZ2.out.1))
   have HOE := Hi (show On P W W6 from ((On.of_below HB1.out).trans (HO4.out.trans hO5)).fresh hb6 (by omega))
   have hro := (hk6 W.heap.size (by omega)).trans ((HO4.out.trans hO5).row HR1.out (by have := HP.out; omega))
   have o0 := cells_at hro 0 _ rfl
   have o1 := cells_at hro 1 _ rfl
   have o2 := cells_at hro 2 _ rfl
   have o3 := cells_at hro 3 _ rfl
   have hff := row_frozen hro
   obtain ⟨W9, hW9, hr9, hb9, hz9, hk9⟩ := setTerm W6 W.heap.size _ _ _ _ (.int .u8 6) (.int .i64 0) (.string ⟨#[]⟩) (.slice (some ⟨wz.heap.size, 0, none⟩) 2 2) _ hro
   have HR9 := Hi hr9
   have HB9 := Hi (And.intro hb9 (And.intro hz9 hk9))
   clear hro hr9 hb9 hz9 hk9 hok1 hok2 hnew hr5 hb5 hz5 hO5 hT5 hTl hr6 hb6 hz6 hk6 ht10 hI10 hbz
   go_wp2
   refine bodyPost_ret (v := .agg #[.int .u8 6, .int .i64 0, .string ⟨#[]⟩, .slice (some ⟨wz.heap.size, 0, none⟩) 2 2]) (by simp [results, Tryz.f107, go_sem, cells_at HR9.out 0 _ rfl, cells_at HR9.out 1 _ rfl, cells_at HR9.out 2 _ rfl, cells_at HR9.out 3 _ rfl]) rfl ?_
   obtain ⟨hb9, hz9, hk9⟩ := HB9.out
   exact ⟨⟨_, _, rfl, HNEW.out.keep fun b hf => ⟨⟨by have := HZ1.out; omega, by rw [hz9]; exact hf.2⟩, hk9 b (by have := HZ1.out; have := hf.1; omega)⟩⟩, HIE.out.below (hb9.mono (Nat.le_refl _)) HP.out, HOE.out.fresh hb9 (Nat.le_refl _)⟩
theorem part_step {l : List Tk} {P f : Nat} (hf : PC l P 150 (fun i => sumP f l i)) : PC l P 107 (fun i => partP (f + 1) l i) := by
 intro n t m W h hr
 simp only [partP] at hr
 split at hr
 · cases hr
 · rename_i t0 m0 h0
   split at hr
   · rename_i hs
     split at hr
     · cases hr
     · rename_i u m' hpi
       cases hr
       exact part_two hf h h0 hs hpi
   · rename_i hs
     cases hr
     exact part_one hf h h0 (by simpa using hs)
theorem parse_any (l : List Tk) (P : Nat) : ∀ f : Nat, PC l P 202 (fun i => factorP f l i) ∧ PC l P 214 (fun i => namedP f l i) ∧ PC l P 176 (fun i => productP f l i) ∧ PC l P 150 (fun i => sumP f l i) ∧ PC l P 107 (fun i => partP f l i)
 | 0 => ⟨fun _ _ _ _ _ h => by simp [factorP] at h, fun _ _ _ _ _ h => by simp [namedP] at h, fun _ _ _ _ _ h => by simp [productP] at h, fun _ _ _ _ _ h => by simp [sumP] at h, fun _ _ _ _ _ h => by simp [partP] at h⟩
 | f + 1 => by
   obtain ⟨h1, h2, h3, h4, h5⟩ := parse_any l P f
   exact ⟨factor_step h1 h5 h2, named_step h5, product_step h1, sum_step h3, part_step h4⟩
end Go.Proofs.YtlmdhlckgbgfhaaGreatDoor
namespace Go.Proofs.YtlmdhlckgbgfhaaGreatDoor
open Go.RowKit Go.Shelf
attribute [local go_sem] Oper.semAt_some

def tokOkB (l : List Tk) : Bool := decide (l.length ≤ 40000) && l.all fun x => decide (x.t.size ≤ 1000)
theorem tokOk_of {l : List Tk} (h : tokOkB l = true) : TokOk l := by
 unfold tokOkB at h
 rw [Bool.and_eq_true, decide_eq_true_eq, List.all_eq_true] at h
 exact ⟨h.1, fun x hx => by have := of_decide_eq_true (h.2 x hx); unfold maxLen; omega⟩
theorem cellsR_tok : ∀ (l : List Tk) (i : Nat) (x : Tk), l[i]? = some x → (cellsR l)[i * 3]? = some (.int .i64 x.k) ∧ (cellsR l)[i * 3 + 1]? = some (.string x.t) ∧ (cellsR l)[i * 3 + 2]? = some (.int .i64 x.a)
 | [], i, x, h => by simp at h
 | y :: r, 0, x, h => by
   simp only [List.getElem?_cons_zero, Option.some.injEq] at h
   subst h
   exact ⟨rfl, rfl, rfl⟩
 | y :: r, i + 1, x, h => by
   have := cellsR_tok r i x (by simpa using h)
   simp only [cellsR]
   rw [show (i + 1) * 3 = i * 3 + 3 by omega]
   simpa using this
theorem of04_any (s : ByteArray) (W : World) (hs : s.size ≤ 32768) (he : lexErr s = none) (hk : tokOkB (lexAll s) = true) :
   Calls Tryz.prog 71 #[.string s] W fun e w' => ∃ g, e = .returned (.pointer (some ⟨g, 0, none⟩)) ∧ W.heap.size ≤ g ∧ InAt (lexAll s) g 0 w' ∧ Below W.heap.size W w' := by
 have HL := Hi (rlex_any s W hs)
 have HE := Hi he
 have HO := Hi (tokOk_of hk)
 clear he hk
 go_enter Tryz.func71, Tryz.ntmps71
 go_wp2_with (go_at_call 106; refine HL.out.mono ?_; clear HL; intro e w2 hp; unfold RPost at hp; rw [HE.out] at hp; obtain ⟨hb2, v, rfl, hrow⟩ := hp; obtain ⟨a, nn, cap, rfl⟩ := ownSlice hrow; have HROW := Hi hrow; have HB2 := Hi hb2; clear hb2 hrow)
 go_ret
 have hrow := HROW.out
 have hB := HB2.out
 refine ⟨w2.heap.size, rfl, hB.size, ⟨HO.out, Nat.zero_le _, ?_⟩, hB.alloc hB.size _⟩
 have hrow0 := hrow
 obtain ⟨hl, ⟨e1, h0⟩ | ⟨g, c, cur, e1, hg, hblk, hc, hm, _, _⟩⟩ := hrow
 · cases e1
   have hnil : lexAll s = [] := List.length_eq_zero_iff.1 h0
   exact ⟨none, 0, (s.size : Int), by rw [h0]; exact World.alloc_heap_new _ _, fun hne => absurd hnil hne⟩
 · cases e1
   refine ⟨some ⟨g, 0, none⟩, cap, (s.size : Int), World.alloc_heap_new _ _, fun _ => ⟨g, 0, rfl, (gL hblk), fun i x hx => ?_⟩⟩
   obtain ⟨h1, h2, h3⟩ := cellsR_tok _ i x hx
   have hcell : ∀ j u, (cellsR (lexAll s))[j]? = some u → (w2.alloc (.cells (recI (some ⟨g, 0, none⟩) (lexAll s).length cap 0 (s.size : Int)) 111)).cell? ⟨g, 0 + j, none⟩ = some u := by
     intro j u hj
     have := hrow0.cells (g := g) rfl j u hj
     rw [Addr.add_lit] at this
     exact (cell_block (Below.heap_alloc _ _ _ (gL hblk))).trans this
   exact ⟨hcell _ _ h1, hcell _ _ h2, hcell _ _ h3⟩

def readS (f : Nat) (s : ByteArray) : Option Tm := if decide (s.size ≤ 32768) && (lexErr s).isNone && tokOkB (lexAll s) then (match partP f (lexAll s) 0 with | none => none | some (t, m) => if t.depth ≤ 12 ∧ m = (lexAll s).length then some t else none) else none
theorem term04_any {l : List Tk} {P f : Nat} {W : World} (h : InAt l P 0 W) {t : Tm} {m : Nat} (hp : partP f l 0 = some (t, m)) (hd : t.depth ≤ 12) :
   Calls Tryz.prog 72 #[.pointer (some ⟨P, 0, none⟩)] W (PPost l P m t W) := by
 obtain ⟨W1, hW1, hr1, hb1, hz1⟩ := rowTerm W (.int .u8 0) (.int .i64 0) (.string ⟨#[]⟩) (.slice none 0 0)
 have hI1 := h.grow hb1
 obtain ⟨_, _, _, _, p1, _, _, _⟩ := hI1.cells
 have HK := Hi ((parse_any l P f).2.2.2.2 _ _ _ W1 hI1 hp)
 have HR1 := Hi hr1
 have HB1 := Hi hb1
 have HP := Hi h.lt
 have HZ1 := Hi hz1
 have HD := Hi hd
 clear h hI1 hp hd hr1 hb1 hz1
 go_enter Tryz.func72, Tryz.ntmps72
 go_wp2_with (first
   | (go_at_call 107; refine HK.out.mono ?_; clear HK; rintro e W2 ⟨⟨a, c, rfl, ht2⟩, hI2, hO2⟩
      obtain ⟨W3, hW3, hr3, hb3, hz3⟩ := rowTerm W2 (.int .u8 t.kind) (.int .i64 t.num) (.string t.name) (.slice a t.args.length c)
      have ht3 : IsTmIn (fun b => W1.heap.size ≤ b ∧ b < W2.heap.size) W3 _ _ _ _ t := ht2.keep fun b hf => ⟨hf, hb3.block b hf.2⟩
      have HDE := Hi (deep_any (P := P) (at' := 0) 0 (by decide) t _ _ _ _ W3 (ht3.isTm fun b hf => by omega) HD.out)
      have HO3 := Hi (hO2.trans (On.of_below hb3))
      have HI3 := Hi (hI2.grow hb3)
      have HZ2 := Hi (And.intro hI2.lt hO2.size)
      have HR3 := Hi hr3
      have HT3 := Hi (show IsTmIn (fun b => W1.heap.size ≤ b ∧ b < W3.heap.size) W3 _ _ _ _ t from ht3.keep fun b hf => ⟨⟨hf.1, by omega⟩, rfl⟩)
      have HW3 := Hi hW3
      have q0 := cells_at hr3 0 _ rfl
      have q1 := cells_at hr3 1 _ rfl
      have q2 := cells_at hr3 2 _ rfl
      have q3 := cells_at hr3 3 _ rfl
      clear ht2 hI2 hO2 hr3 hb3 hz3 ht3)
   | (go_at_call 108; refine HDE.out.mono ?_; clear HDE; rintro e W4 ⟨rfl, hB4⟩
      have hO4 := On.of_below (P := P) hB4
      have hr4 := hO4.row HR3.out (by have := HZ2.out.1; omega)
      have u0 := cells_at hr4 0 _ rfl
      have u1 := cells_at hr4 1 _ rfl
      have u2 := cells_at hr4 2 _ rfl
      have u3 := cells_at hr4 3 _ rfl
      have HIE := Hi (HI3.out.grow hB4)
      have HOE := Hi (HO3.out.trans hO4)
      have HT4 := Hi (show IsTmIn (fun b => W1.heap.size ≤ b ∧ b < W4.heap.size) W4 _ _ _ _ t from HT3.out.keep fun b hf => ⟨⟨hf.1, Nat.lt_of_lt_of_le hf.2 hB4.size⟩, hB4.block b hf.2⟩)
      have hro := HOE.out.row HR1.out (by have := HP.out; omega)
      have o0 := cells_at hro 0 _ rfl
      have o1 := cells_at hro 1 _ rfl
      have o2 := cells_at hro 2 _ rfl
      have o3 := cells_at hro 3 _ rfl
      have hff := row_frozen hro
      obtain ⟨W9, hW9, hr9, hb9, hz9, hk9⟩ := setTerm W4 W.heap.size _ _ _ _ (.int .u8 t.kind) (.int .i64 t.num) (.string t.name) (.slice a t.args.length c) _ hro
      have HR9 := Hi hr9
      have HB9 := Hi (And.intro hb9 (And.intro hz9 hk9))
      clear hO4 hB4 hr4 hro hr9 hb9 hz9 hk9))
 refine bodyPost_ret (v := .agg #[.int .u8 t.kind, .int .i64 t.num, .string t.name, .slice a t.args.length c]) (by simp [results, Tryz.f72, go_sem, cells_at HR9.out 0 _ rfl, cells_at HR9.out 1 _ rfl, cells_at HR9.out 2 _ rfl, cells_at HR9.out 3 _ rfl]) rfl ?_
 obtain ⟨hb9, hz9, hk9⟩ := HB9.out
 exact ⟨⟨_, _, rfl, HT4.out.keep fun b hf => ⟨⟨by have := HZ1.out; omega, by rw [hz9]; exact hf.2⟩, hk9 b (by have := HZ1.out; have := hf.1; omega)⟩⟩, HIE.out.below (hb9.mono (Nat.le_refl _)) HP.out, ((On.of_below HB1.out).trans HOE.out).fresh hb9 (Nat.le_refl _)⟩
def NewT (t : Tm) (W : World) (v : Value) (W' : World) : Prop := ∃ a cap, v = .agg #[.int .u8 t.kind, .int .i64 t.num, .string t.name, .slice a t.args.length cap] ∧
 IsTmIn (fun b => W.heap.size ≤ b ∧ b < W'.heap.size) W' (.int .u8 t.kind) (.int .i64 t.num) (.string t.name) (.slice a t.args.length cap) t ∧ Below W.heap.size W W'
theorem Term04_any (f : Nat) (s : ByteArray) (t : Tm) (hr : readS f s = some t) (W : World) :
   Calls Tryz.prog 40 #[.string s] W fun e w' => ∃ v, e = .returned (.tuple #[v, .int .i64 0, .int .i64 0]) ∧ NewT t W v w' := by
 unfold readS at hr
 split at hr
 case isFalse => cases hr
 rename_i hc
 simp only [Bool.and_eq_true, decide_eq_true_eq, Option.isNone_iff_eq_none] at hc
 obtain ⟨⟨hs, he⟩, hk⟩ := hc
 split at hr
 · cases hr
 rename_i t' m hp
 split at hr
 case isFalse => cases hr
 rename_i hdm
 obtain ⟨hd, rfl⟩ := hdm
 cases hr
 obtain ⟨W1, hW1, hr1, hb1, hz1⟩ := rowTerm W (.int .u8 0) (.int .i64 0) (.string ⟨#[]⟩) (.slice none 0 0)
 have HOF := Hi (of04_any s W1 hs he hk)
 have HPP := Hi (fun (P : Nat) (W : World) (h : InAt (lexAll s) P 0 W) => term04_any h hp hd)
 obtain ⟨l, hl⟩ : ∃ l, lexAll s = l := ⟨_, rfl⟩
 rw [hl] at HOF HPP
 have HR1 := Hi hr1
 have HB1 := Hi hb1
 have HZ1 := Hi hz1
 clear hs he hk hp hd hl hr1 hb1 hz1
 go_enter Tryz.func40, Tryz.ntmps40
 go_wp2_with (first
   | (go_at_call 71; refine HOF.out.mono ?_; clear HOF; rintro e W2 ⟨P, rfl, hP, hI2, hB2⟩
      have HTM := Hi (HPP.out P W2 hI2)
      have HP := Hi (And.intro hP hI2.lt)
      have HB2 := Hi hB2
      clear hP hI2 hB2)
   | (go_at_call 72; refine HTM.out.mono ?_; clear HTM; rintro e W3 ⟨⟨a, c, rfl, ht3⟩, hI3, hO3⟩
      obtain ⟨W4, hW4, hr4, hb4, hz4⟩ := rowTerm W3 (.int .u8 t.kind) (.int .i64 t.num) (.string t.name) (.slice a t.args.length c)
      have HB4 := Hi (show Below W1.heap.size W1 W4 from HB2.out.trans ((hO3.below HP.out.1 HB2.out.size).trans (hb4.mono (by have := HB2.out.size; have := hO3.size; omega))))
      have HI4 := Hi (hI3.grow hb4)
      have HR4 := Hi hr4
      have HT4 := Hi (show IsTmIn (fun b => W1.heap.size ≤ b ∧ b < W4.heap.size ∧ b ≠ W3.heap.size) W4 _ _ _ _ t from ht3.keep fun b hf => ⟨⟨by have := HB2.out.size; omega, by omega, by omega⟩, hb4.block b hf.2⟩)
      have HZ3 := Hi (show W1.heap.size ≤ W3.heap.size from by have := HB2.out.size; have := hO3.size; omega)
      have HW4 := Hi hW4
      clear hI3 hO3 ht3 hr4 hb4 hz4 hW4))
 rw [HW4.out]
 obtain ⟨_, _, _, p0, p1, p2, p8, _⟩ := HI4.out.cells
 have hlt : ¬ ((l.length : Int) < (l.length : Int)) := by omega
 have hlb : decide ((l.length : Int) < (l.length : Int)) = false := decide_eq_false hlt
 obtain ⟨T, hT⟩ : ∃ T, W3.heap.size = T := ⟨_, rfl⟩
 rw [hT] at HR4 HT4 HZ3 ⊢
 clear hT
 obtain ⟨len, hlen⟩ : ∃ len, l.length = len := ⟨_, rfl⟩
 rw [hlen] at p0 p1 hlt hlb
 clear hlen
 go_quiet (fail)
 generalize hW9 : World.drewN _ _ = W9
 have HR9 := Hi (show W9.heap[T]? = some (.cells #[.int .u8 t.kind, .int .i64 t.num, .string t.name, .slice a t.args.length c] 24 (0, 0)) by rw [← hW9]; exact HR4.out)
 have p8' : W9.cell? ⟨P, 8, none⟩ = some (.int .i64 0) := by rw [← hW9]; exact p8
 have HB9 := Hi (show Below W1.heap.size W1 W9 by rw [← hW9]; exact HB4.out.trans ⟨rfl, rfl, rfl, Nat.le_refl _, fun _ _ => rfl⟩)
 have HT9 := Hi (show IsTmIn (fun b => W1.heap.size ≤ b ∧ b < W9.heap.size ∧ b ≠ T) W9 (.int .u8 t.kind) (.int .i64 t.num) (.string t.name) (.slice a t.args.length c) t from HT4.out.keep fun b hf => ⟨⟨hf.1, by rw [← hW9]; exact hf.2.1, hf.2.2⟩, by rw [← hW9]; rfl⟩)
 have z0 := cells_at HR9.out 0 _ rfl
 have z1 := cells_at HR9.out 1 _ rfl
 have z2 := cells_at HR9.out 2 _ rfl
 have z3 := cells_at HR9.out 3 _ rfl
 have hro := (HB9.out.block W.heap.size (by have := HZ1.out; omega)).trans HR1.out
 have o0 := cells_at hro 0 _ rfl
 have o1 := cells_at hro 1 _ rfl
 have o2 := cells_at hro 2 _ rfl
 have o3 := cells_at hro 3 _ rfl
 have hff := row_frozen hro
 obtain ⟨W10, hW10, hr10, hb10, hz10, hk10⟩ := setTerm W9 W.heap.size _ _ _ _ (.int .u8 t.kind) (.int .i64 t.num) (.string t.name) (.slice a t.args.length c) _ hro
 have HR10 := Hi hr10
 have HB10 := Hi (And.intro hb10 (And.intro hz10 hk10))
 clear hW9 p0 p1 p2 p8 hro hr10 hb10 hz10 hk10 hlt hlb
 go_wp2
 refine bodyPost_ret (v := .tuple #[.agg #[.int .u8 t.kind, .int .i64 t.num, .string t.name, .slice a t.args.length c], .int .i64 0, .int .i64 0]) (by simp [results, Tryz.f40, go_sem, cells_at HR10.out 0 _ rfl, cells_at HR10.out 1 _ rfl, cells_at HR10.out 2 _ rfl, cells_at HR10.out 3 _ rfl]) rfl ?_
 obtain ⟨hb10, hz10, hk10⟩ := HB10.out
 refine ⟨_, rfl, a, c, rfl, HT9.out.keep fun b hf => ⟨⟨by have := HZ1.out; omega, by rw [hz10]; exact hf.2.1⟩, hk10 b (by have := HZ1.out; have := hf.1; omega)⟩, ?_⟩
 exact HB1.out.trans ((HB9.out.mono HB1.out.size).trans hb10)
theorem read07_any (f : Nat) (s : ByteArray) (t : Tm) (hr : readS f s = some t) (W : World) :
   Calls Tryz.prog 20 #[.string s] W fun e w' => ∃ v, e = .returned v ∧ NewT t W v w' := by
 obtain ⟨W1, hW1, hr1, hb1, hz1⟩ := rowTerm W (.int .u8 0) (.int .i64 0) (.string ⟨#[]⟩) (.slice none 0 0)
 have HTM := Hi (Term04_any f s t hr W1)
 have HR1 := Hi hr1
 have HB1 := Hi hb1
 have HZ1 := Hi hz1
 clear hr hr1 hb1 hz1
 go_enter Tryz.func20, Tryz.ntmps20
 go_wp2_with (first
   | (go_at_call 40; refine HTM.out.mono ?_; clear HTM; rintro e W3 ⟨v, rfl, a, c, rfl, ht3, hb3⟩
      obtain ⟨W4, hW4, hr4, hb4, hz4⟩ := rowTerm W3 (.int .u8 t.kind) (.int .i64 t.num) (.string t.name) (.slice a t.args.length c)
      have HB4 := Hi (show Below W1.heap.size W1 W4 from hb3.trans (hb4.mono hb3.size))
      have HT4 := Hi (show IsTmIn (fun b => W1.heap.size ≤ b ∧ b < W4.heap.size) W4 _ _ _ _ t from ht3.keep fun b hf => ⟨⟨hf.1, by omega⟩, hb4.block b hf.2⟩)
      have z0 := cells_at hr4 0 _ rfl
      have z1 := cells_at hr4 1 _ rfl
      have z2 := cells_at hr4 2 _ rfl
      have z3 := cells_at hr4 3 _ rfl
      have hro := (HB4.out.block W.heap.size (by have := HZ1.out; omega)).trans HR1.out
      have o0 := cells_at hro 0 _ rfl
      have o1 := cells_at hro 1 _ rfl
      have o2 := cells_at hro 2 _ rfl
      have o3 := cells_at hro 3 _ rfl
      have hff := row_frozen hro
      obtain ⟨W10, hW10, hr10, hb10, hz10, hk10⟩ := setTerm W4 W.heap.size _ _ _ _ (.int .u8 t.kind) (.int .i64 t.num) (.string t.name) (.slice a t.args.length c) _ hro
      have HR10 := Hi hr10
      have HB10 := Hi (And.intro hb10 (And.intro hz10 hk10))
      clear hr4 hb4 hz4 hb3 ht3 hro hr10 hb10 hz10 hk10))
 refine bodyPost_ret (v := .agg #[.int .u8 t.kind, .int .i64 t.num, .string t.name, .slice a t.args.length c]) (by simp [results, Tryz.f20, go_sem, cells_at HR10.out 0 _ rfl, cells_at HR10.out 1 _ rfl, cells_at HR10.out 2 _ rfl, cells_at HR10.out 3 _ rfl]) rfl ?_
 obtain ⟨hb10, hz10, hk10⟩ := HB10.out
 refine ⟨_, rfl, a, c, rfl, HT4.out.keep fun b hf => ⟨⟨by have := HZ1.out; omega, by rw [hz10]; exact hf.2⟩, hk10 b (by have := HZ1.out; have := hf.1; omega)⟩, ?_⟩
 exact HB1.out.trans ((HB4.out.mono HB1.out.size).trans hb10)
end Go.Proofs.YtlmdhlckgbgfhaaGreatDoor
namespace Go.Proofs.YtlmdhlckgbgfhaaGreatDoor
open Go.RowKit Go.Shelf
attribute [local go_sem] Oper.semAt_some

theorem setBind (W : World) (b : Nat) (c0 c1 c2 c3 c4 d0 d1 d2 d3 d4 : Value) (t : TypeId) (h : W.heap[b]? = some (.cells #[c0, c1, c2, c3, c4] t (0, 0))) : ∃ W', ((((W.setCell ⟨b, 0, none⟩ d0).setCell ⟨b, 1, none⟩ d1).setCell ⟨b, 2, none⟩ d2).setCell ⟨b, 3, none⟩ d3).setCell ⟨b, 4, none⟩ d4 = W' ∧ W'.heap[b]? = some (.cells #[d0, d1, d2, d3, d4] t (0, 0)) ∧ Below b W W' ∧ W'.heap.size = W.heap.size ∧ ∀ k, k ≠ b → W'.heap[k]? = W.heap[k]? := by
 refine ⟨_, rfl, ?_, (((((Below.refl b W).setCell (p := ⟨b, 0, none⟩) (Nat.le_refl _) _).setCell (p := ⟨b, 1, none⟩) (Nat.le_refl _) _).setCell (p := ⟨b, 2, none⟩) (Nat.le_refl _) _).setCell (p := ⟨b, 3, none⟩) (Nat.le_refl _) _).setCell (p := ⟨b, 4, none⟩) (Nat.le_refl _) _, by simp [World.setCell], fun k hk => ?_⟩
 · simp [World.setCell, Array.getElem?_modify, h]
 · simp [World.setCell, Array.getElem?_modify, Ne.symm hk]
theorem pair07_any (f : Nat) (nm s : ByteArray) (t : Tm) (hr : readS f s = some t) (W : World) :
   Calls Tryz.prog 19 #[.string nm, .string s] W fun e w' => ∃ a c, e = .returned (.agg #[.string nm, .int .u8 t.kind, .int .i64 t.num, .string t.name, .slice a t.args.length c]) ∧
     IsTmIn (fun b => W.heap.size ≤ b ∧ b < w'.heap.size) w' (.int .u8 t.kind) (.int .i64 t.num) (.string t.name) (.slice a t.args.length c) t ∧ Below W.heap.size W w' := by
 obtain ⟨W1, hW1, hr1, hb1, hz1⟩ : ∃ W1, W.alloc (.cells #[.string ⟨#[]⟩, .int .u8 0, .int .i64 0, .string ⟨#[]⟩, .slice none 0 0] 40) = W1 ∧ W1.heap[W.heap.size]? = some (.cells #[.string ⟨#[]⟩, .int .u8 0, .int .i64 0, .string ⟨#[]⟩, .slice none 0 0] 40 (0, 0)) ∧ Below W.heap.size W W1 ∧ W1.heap.size = W.heap.size + 1 :=
   ⟨_, rfl, World.alloc_heap_new _ _, bR.alloc (Nat.le_refl _) _, by simp⟩
 have HTM := Hi (read07_any f s t hr W1)
 have HR1 := Hi hr1
 have HB1 := Hi hb1
 have HZ1 := Hi hz1
 clear hr hr1 hb1 hz1
 go_enter Tryz.func19, Tryz.ntmps19
 go_wp2_with (first
   | (go_at_call 20; refine HTM.out.mono ?_; clear HTM; rintro e W3 ⟨v, rfl, a, c, rfl, ht3, hb3⟩
      have hro := (hb3.block W.heap.size (by have := HZ1.out; omega)).trans HR1.out
      have o0 := cells_at hro 0 _ rfl
      have o1 := cells_at hro 1 _ rfl
      have o2 := cells_at hro 2 _ rfl
      have o3 := cells_at hro 3 _ rfl
      have o4 := cells_at hro 4 _ rfl
      have hff := row_frozen hro
      obtain ⟨W10, hW10, hr10, hb10, hz10, hk10⟩ := setBind W3 W.heap.size _ _ _ _ _ (.string nm) (.int .u8 t.kind) (.int .i64 t.num) (.string t.name) (.slice a t.args.length c) _ hro
      have HT3 := Hi ht3
      have HB3 := Hi hb3
      have HR10 := Hi hr10
      have HB10 := Hi (And.intro hb10 (And.intro hz10 hk10))
      clear hb3 ht3 hro hr10 hb10 hz10 hk10))
 refine bodyPost_ret (v := .agg #[.string nm, .int .u8 t.kind, .int .i64 t.num, .string t.name, .slice a t.args.length c]) (by simp [results, Tryz.f19, go_sem, cells_at HR10.out 0 _ rfl, cells_at HR10.out 1 _ rfl, cells_at HR10.out 2 _ rfl, cells_at HR10.out 3 _ rfl, cells_at HR10.out 4 _ rfl]) rfl ?_
 obtain ⟨hb10, hz10, hk10⟩ := HB10.out
 refine ⟨_, _, rfl, HT3.out.keep fun b hf => ⟨⟨by have := HZ1.out; omega, by rw [hz10]; exact hf.2⟩, hk10 b (by have := HZ1.out; have := hf.1; omega)⟩, ?_⟩
 exact HB1.out.trans ((HB3.out.mono HB1.out.size).trans hb10)
def matchesB (p v : Tm) (b want : Bd) : Bool := match matchL [p] [v] b with
 | some c => sameBd c want
 | none => false
theorem matches07_any (f : Nat) (s1 s2 : ByteArray) (p v : Tm) (h1 : readS f s1 = some p) (h2 : readS f s2 = some v) (b want : Bd) (bv wv : Value) (W : World) (hb : BdV W bv b) (hw : BdV W wv want) (hlb : b.length ≤ 40000) (hcb : ∀ x ∈ b, x.2.count ≤ 1000000) (hsb : ∀ x ∈ b, x.1.size ≤ maxLen) (hcp : p.count ≤ 40000) (hcv : v.count ≤ 1000000) :
   Calls Tryz.prog 21 #[.string s1, .string s2, bv, wv] W fun e w' => e = .returned (.bool (matchesB p v b want)) ∧ Below W.heap.size W w' := by
 have HR1 := Hi (read07_any f s1 p h1 W)
 have HR2 := Hi (fun W => read07_any f s2 v h2 W)
 have HM := Hi (fun (W' : World) (c0 c1 c2 c3 d0 d1 d2 d3 : Value) (hB : Below W.heap.size W W') (hp : IsTm W'.heap.size W' c0 c1 c2 c3 p) (hv : IsTm W'.heap.size W' d0 d1 d2 d3 v) => match_any p v b c0 c1 c2 c3 d0 d1 d2 d3 bv W' hp hv (hb.grow hB) hlb hcb hsb hcp hcv)
 have HW := Hi hw
 have HMB := Hi (show matchesB p v b want = match matchL [p] [v] b with | some c => sameBd c want | none => false from rfl)
 obtain ⟨M, hM⟩ : ∃ M, matchL [p] [v] b = M := ⟨_, rfl⟩
 rw [hM] at HM HMB
 clear h1 h2 hb hw hlb hcb hsb hcp hcv hM
 go_enter Tryz.func21, Tryz.ntmps21
 cases M with
 | none =>
   go_wp2_with (first
     | (go_at_call 15; refine HMM.out.mono ?_; clear HMM; rintro e W4 ⟨hb4, rfl⟩; have HB4 := Hi (HB3.out.trans (hb4.mono HB3.out.size)); clear hb4)
     | (go_at_call 20; have hgd := HT2.out; clear hgd; refine (HR2.out _).mono ?_; clear HR2; rintro e W3 ⟨v3, rfl, a3, c3, rfl, ht3, hb3⟩
        have HB3 := Hi (HB2.out.trans (hb3.mono HB2.out.size))
        have HMM := Hi (HM.out W3 _ _ _ _ _ _ _ _ HB3.out ((HT2.out.keep (ok' := fun b => b < W3.heap.size) fun b hf => ⟨Nat.lt_of_lt_of_le hf.2 hb3.size, hb3.block b hf.2⟩).isTm fun b hf => hf) (ht3.isTm fun b hf => hf.2))
        clear ht3 hb3)
     | (go_at_call 20; refine HR1.out.mono ?_; clear HR1; rintro e W2 ⟨v2, rfl, a2, c2, rfl, ht2, hb2⟩; have HT2 := Hi ht2; have HB2 := Hi hb2; clear ht2 hb2))
   go_ret
   exact ⟨by rw [HMB.out]; rfl, HB4.out⟩
 | some cc =>
   obtain ⟨R, hR⟩ : ∃ R, sameBd cc want = R := ⟨_, rfl⟩
   have HRR := Hi hR
   clear hR
   go_wp2_with (first
     | (go_at_call 17; have hsb := sameBinds_any cc want _ _ W4 HC4.out (HW.out.grow HB4.out); rw [HRR.out] at hsb; refine hsb.mono ?_; clear hsb; rintro e W5 ⟨rfl, hb5⟩; have HB5 := Hi (HB4.out.trans (hb5.mono HB4.out.size)); clear hb5)
     | (go_at_call 15; refine HMM.out.mono ?_; clear HMM; rintro e W4 ⟨hb4, v4, rfl, hc4⟩; have HC4 := Hi hc4; have HB4 := Hi (HB3.out.trans (hb4.mono HB3.out.size)); clear hb4 hc4)
     | (go_at_call 20; have hgd := HT2.out; clear hgd; refine (HR2.out _).mono ?_; clear HR2; rintro e W3 ⟨v3, rfl, a3, c3, rfl, ht3, hb3⟩
        have HB3 := Hi (HB2.out.trans (hb3.mono HB2.out.size))
        have HMM := Hi (HM.out W3 _ _ _ _ _ _ _ _ HB3.out ((HT2.out.keep (ok' := fun b => b < W3.heap.size) fun b hf => ⟨Nat.lt_of_lt_of_le hf.2 hb3.size, hb3.block b hf.2⟩).isTm fun b hf => hf) (ht3.isTm fun b hf => hf.2))
        clear ht3 hb3)
     | (go_at_call 20; refine HR1.out.mono ?_; clear HR1; rintro e W2 ⟨v2, rfl, a2, c2, rfl, ht2, hb2⟩; have HT2 := Hi ht2; have HB2 := Hi hb2; clear ht2 hb2))
   go_ret
   exact ⟨by rw [HMB.out, ← HRR.out]; rfl, HB5.out⟩
def ex0 : Tm := (.mk 1 2 ⟨#[]⟩ [])
theorem ex0_read : readS 20 ⟨#[50]⟩ = some ex0 := by kernel_rfl
def ex1 : Tm := (.mk 4 0 ⟨#[102]⟩ [(.mk 3 0 ⟨#[88]⟩ []), (.mk 3 0 ⟨#[88]⟩ [])])
theorem ex1_read : readS 20 ⟨#[102, 40, 88, 44, 88, 41]⟩ = some ex1 := by kernel_rfl
def ex2 : Tm := (.mk 4 0 ⟨#[102]⟩ [(.mk 1 1 ⟨#[]⟩ []), (.mk 1 2 ⟨#[]⟩ [])])
theorem ex2_read : readS 20 ⟨#[102, 40, 49, 44, 50, 41]⟩ = some ex2 := by kernel_rfl
def ex3 : Tm := (.mk 5 0 ⟨#[43]⟩ [(.mk 3 0 ⟨#[88]⟩ []), (.mk 1 1 ⟨#[]⟩ [])])
theorem ex3_read : readS 20 ⟨#[88, 43, 49]⟩ = some ex3 := by kernel_rfl
def ex4 : Tm := (.mk 1 3 ⟨#[]⟩ [])
theorem ex4_read : readS 20 ⟨#[51]⟩ = some ex4 := by kernel_rfl
def ex5 : Tm := (.mk 1 1 ⟨#[]⟩ [])
theorem ex5_read : readS 20 ⟨#[49]⟩ = some ex5 := by kernel_rfl
def ex6 : Tm := (.mk 2 0 ⟨#[97]⟩ [])
theorem ex6_read : readS 20 ⟨#[97]⟩ = some ex6 := by kernel_rfl
def ex7 : Tm := (.mk 4 0 ⟨#[102]⟩ [(.mk 3 0 ⟨#[88]⟩ []), (.mk 4 0 ⟨#[103]⟩ [(.mk 3 0 ⟨#[89]⟩ [])])])
theorem ex7_read : readS 20 ⟨#[102, 40, 88, 44, 103, 40, 89, 41, 41]⟩ = some ex7 := by kernel_rfl
def ex8 : Tm := (.mk 4 0 ⟨#[102]⟩ [(.mk 1 1 ⟨#[]⟩ []), (.mk 4 0 ⟨#[103]⟩ [(.mk 2 0 ⟨#[97]⟩ [])])])
theorem ex8_read : readS 20 ⟨#[102, 40, 49, 44, 103, 40, 97, 41, 41]⟩ = some ex8 := by kernel_rfl
def ex9 : Tm := (.mk 6 0 ⟨#[]⟩ [(.mk 1 1 ⟨#[]⟩ []), (.mk 1 3 ⟨#[]⟩ [])])
theorem ex9_read : readS 20 ⟨#[49, 46, 46, 51]⟩ = some ex9 := by kernel_rfl
def ex10 : Tm := (.mk 4 0 ⟨#[102]⟩ [(.mk 5 0 ⟨#[43]⟩ [(.mk 3 0 ⟨#[88]⟩ []), (.mk 1 1 ⟨#[]⟩ [])]), (.mk 3 0 ⟨#[88]⟩ [])])
theorem ex10_read : readS 20 ⟨#[102, 40, 88, 43, 49, 44, 88, 41]⟩ = some ex10 := by kernel_rfl
def ex11 : Tm := (.mk 4 0 ⟨#[102]⟩ [(.mk 1 3 ⟨#[]⟩ []), (.mk 1 2 ⟨#[]⟩ [])])
theorem ex11_read : readS 20 ⟨#[102, 40, 51, 44, 50, 41]⟩ = some ex11 := by kernel_rfl
def ex12 : Tm := (.mk 5 0 ⟨#[43]⟩ [(.mk 3 0 ⟨#[88]⟩ []), (.mk 3 0 ⟨#[89]⟩ [])])
theorem ex12_read : readS 20 ⟨#[88, 43, 89]⟩ = some ex12 := by kernel_rfl
def ex13 : Tm := (.mk 5 0 ⟨#[43]⟩ [(.mk 1 2 ⟨#[]⟩ []), (.mk 3 0 ⟨#[89]⟩ [])])
theorem ex13_read : readS 20 ⟨#[50, 43, 89]⟩ = some ex13 := by kernel_rfl
def bdTwo : Bd := [(⟨#[88]⟩, ex0)]
def bdOne : Bd := [(⟨#[88]⟩, ex5), (⟨#[89]⟩, ex6)]
theorem exm1 : matchL [ex1] [ex2] [] = none := by kernel_rfl
theorem exm2 : matchL [ex3] [ex4] [] = none := by kernel_rfl
theorem exm3 : matchesB ex7 ex8 [] bdOne = true := by kernel_rfl
theorem exm4 : matchesB ex3 ex4 bdTwo bdTwo = true := by kernel_rfl
theorem exm5 : matchesB ex9 ex0 [] [] = true := by kernel_rfl
theorem exm6 : matchesB ex10 ex11 [] bdTwo = true := by kernel_rfl
theorem exm7 : applyT (prs bdTwo) ex12 = ex13 := by kernel_rfl
theorem BdV.one {w : World} {g : Nat} {nm : ByteArray} {c0 c1 c2 c3 : Value} {t : Tm} (hg : w.heap[g]? = some (.cells #[.string nm, c0, c1, c2, c3] 40 (0, 0))) (hn : nm.size ≤ maxLen) (h : IsTm w.heap.size w c0 c1 c2 c3 t) : BdV w (.slice (some ⟨g, 0, none⟩) 1 1) [(nm, t)] := by
 refine ⟨some ⟨g, 0, none⟩, 1, rfl, Nat.le_refl _, by unfold maxLen; omega, fun _ => ⟨g, 0, rfl, (gL hg), ?_⟩⟩
 simp only [IsBs]
 exact ⟨hn, cells_at hg 0 _ rfl, ⟨c0, c1, c2, c3, cells_at hg 1 _ rfl, cells_at hg 2 _ rfl, cells_at hg 3 _ rfl, cells_at hg 4 _ rfl, h⟩, trivial⟩
theorem BdV.two {w : World} {g : Nat} {nm nm' : ByteArray} {c0 c1 c2 c3 d0 d1 d2 d3 : Value} {t u : Tm} (hg : w.heap[g]? = some (.cells #[.string nm, c0, c1, c2, c3, .string nm', d0, d1, d2, d3] 40 (0, 0))) (hn : nm.size ≤ maxLen) (hn' : nm'.size ≤ maxLen) (h : IsTm w.heap.size w c0 c1 c2 c3 t) (h' : IsTm w.heap.size w d0 d1 d2 d3 u) : BdV w (.slice (some ⟨g, 0, none⟩) 2 2) [(nm, t), (nm', u)] := by
 refine ⟨some ⟨g, 0, none⟩, 2, rfl, Nat.le_refl _, by unfold maxLen; omega, fun _ => ⟨g, 0, rfl, (gL hg), ?_⟩⟩
 simp only [IsBs]
 exact ⟨hn, cells_at hg 0 _ rfl, ⟨c0, c1, c2, c3, cells_at hg 1 _ rfl, cells_at hg 2 _ rfl, cells_at hg 3 _ rfl, cells_at hg 4 _ rfl, h⟩, hn', cells_at hg 5 _ rfl, ⟨d0, d1, d2, d3, cells_at hg 6 _ rfl, cells_at hg 7 _ rfl, cells_at hg 8 _ rfl, cells_at hg 9 _ rfl, h'⟩, trivial⟩
theorem bdTwo_ok : bdTwo.length ≤ 40000 ∧ (∀ x ∈ bdTwo, x.2.count ≤ 1000000) ∧ ∀ x ∈ bdTwo, x.1.size ≤ maxLen := by
 refine ⟨by decide, fun x hx => ?_, fun x hx => ?_⟩
 · unfold bdTwo at hx
   obtain rfl := List.mem_singleton.1 hx
   decide
 · unfold bdTwo at hx
   obtain rfl := List.mem_singleton.1 hx
   unfold maxLen; decide
theorem awake07_any (w : World) : Calls Tryz.prog 5 #[] w fun e w' => e = .returned (.bool true) ∧ Below w.heap.size w w' := by
 have HTW := Hi bdTwo_ok
 go_enter Tryz.func5, Tryz.ntmps5
 go_wp2_with (first
   | (go_at_call 22; have hgd := HB16.out; clear hgd; have hm := sameTerm_any ex13 ex13 _ _ _ _ _ _ _ _ V16 ((HT15.out.below HG16.out).mono HG16.out.size) HT16.out; rw [show sameB ex13 ex13 = true from by kernel_rfl] at hm; refine hm.mono ?_; clear hm; rintro e V17 ⟨rfl, hb⟩
      have HB17 := Hi (HB16.out.trans (hb.mono HB16.out.size))
      clear hb)
   | (go_at_call 20; have hgd := HB15.out; clear hgd; refine (read07_any 20 ⟨#[50, 43, 89]⟩ ex13 ex13_read _).mono ?_; rintro e V16 ⟨v, rfl, a16, c16, rfl, ht, hb⟩
      have HB16 := Hi (HB15.out.trans (hb.mono HB15.out.size))
      have HT16 := Hi (show IsTm V16.heap.size V16 _ _ _ _ ex13 from ht.isTm fun b hf => hf.2)
      have HG16 := Hi hb
      clear ht hb)
   | (go_at_call 9; have hgd := HB14.out; clear hgd; have hm := mApply_any bdTwo (by decide) HTW.out.2.1 HTW.out.2.2 (.slice (some ⟨W1.heap.size, 0, none⟩) 1 1) ex12 _ _ _ _ V14 (HTWO.out.grow HB14.out) HT14.out (by decide); rw [exm7] at hm; refine hm.mono ?_; clear hm; rintro e V15 ⟨d0, d1, d2, d3, rfl, ht, hb⟩
      have HB15 := Hi (HB14.out.trans (hb.mono HB14.out.size))
      have HT15 := Hi (show IsTm V15.heap.size V15 _ _ _ _ ex13 from ht.isTm fun b hf => hf.2)
      clear ht hb)
   | (go_at_call 20; have hgd := HB13.out; clear hgd; refine (read07_any 20 ⟨#[88, 43, 89]⟩ ex12 ex12_read _).mono ?_; rintro e V14 ⟨v, rfl, a14, c14, rfl, ht, hb⟩
      have HB14 := Hi (HB13.out.trans (hb.mono HB13.out.size))
      have HT14 := Hi (show IsTm V14.heap.size V14 _ _ _ _ ex12 from ht.isTm fun b hf => hf.2)
      clear ht hb)
   | (go_at_call 21; have hgd := HB12.out; clear hgd; have hm := matches07_any 20 ⟨#[102, 40, 88, 43, 49, 44, 88, 41]⟩ ⟨#[102, 40, 51, 44, 50, 41]⟩ ex10 ex11 ex10_read ex11_read [] bdTwo (.slice none 0 0) (.slice (some ⟨W1.heap.size, 0, none⟩) 1 1) V12 (BdV.nil _) (HTWO.out.grow HB12.out) (by decide) (fun x hx => (List.not_mem_nil hx).elim) (fun x hx => (List.not_mem_nil hx).elim) (by decide) (by decide); rw [exm6] at hm; refine hm.mono ?_; clear hm; rintro e V13 ⟨rfl, hb⟩
      have HB13 := Hi (HB12.out.trans (hb.mono HB12.out.size))
      clear hb)
   | (go_at_call 21; have hgd := HB11.out; clear hgd; have hm := matches07_any 20 ⟨#[49, 46, 46, 51]⟩ ⟨#[50]⟩ ex9 ex0 ex9_read ex0_read [] [] (.slice none 0 0) (.slice none 0 0) V11 (BdV.nil _) (BdV.nil _) (by decide) (fun x hx => (List.not_mem_nil hx).elim) (fun x hx => (List.not_mem_nil hx).elim) (by decide) (by decide); rw [exm5] at hm; refine hm.mono ?_; clear hm; rintro e V12 ⟨rfl, hb⟩
      have HB12 := Hi (HB11.out.trans (hb.mono HB11.out.size))
      clear hb)
   | (go_at_call 21; have hgd := HB10.out; clear hgd; have hm := matches07_any 20 ⟨#[88, 43, 49]⟩ ⟨#[51]⟩ ex3 ex4 ex3_read ex4_read bdTwo bdTwo (.slice (some ⟨W1.heap.size, 0, none⟩) 1 1) (.slice (some ⟨W1.heap.size, 0, none⟩) 1 1) V10 (HTWO.out.grow HB10.out) (HTWO.out.grow HB10.out) HTW.out.1 HTW.out.2.1 HTW.out.2.2 (by decide) (by decide); rw [exm4] at hm; refine hm.mono ?_; clear hm; rintro e V11 ⟨rfl, hb⟩
      have HB11 := Hi (HB10.out.trans (hb.mono HB10.out.size))
      clear hb)
   | (go_at_call 21; have hgd := HBU.out; clear hgd; rw [HU.out]; have hm := matches07_any 20 ⟨#[102, 40, 88, 44, 103, 40, 89, 41, 41]⟩ ⟨#[102, 40, 49, 44, 103, 40, 97, 41, 41]⟩ ex7 ex8 ex7_read ex8_read [] bdOne (.slice none 0 0) (.slice (some ⟨V9.heap.size, 0, none⟩) 2 2) U (BdV.nil _) HONE.out (by decide) (fun x hx => (List.not_mem_nil hx).elim) (fun x hx => (List.not_mem_nil hx).elim) (by decide) (by decide); rw [exm3] at hm; refine hm.mono ?_; clear hm; rintro e V10 ⟨rfl, hb⟩
      have HB10 := Hi (HBU.out.trans (hb.mono HBU.out.size))
      clear hb)
   | (go_at_call 19; have hgd := HB8.out; clear hgd; refine (pair07_any 20 ⟨#[89]⟩ ⟨#[97]⟩ ex6 ex6_read _).mono ?_; rintro e V9 ⟨a9, c9, rfl, ht, hb⟩
      have HB9 := Hi (HB8.out.trans (hb.mono HB8.out.size))
      have HT9 := Hi ht
      have HG9 := Hi hb
      obtain ⟨U, hU, hrU, hbU⟩ : ∃ U, V9.alloc (.cells #[.string ⟨#[88]⟩, .int .u8 ex5.kind, .int .i64 ex5.num, .string ex5.name, .slice a8 ex5.args.length c8, .string ⟨#[89]⟩, .int .u8 ex6.kind, .int .i64 ex6.num, .string ex6.name, .slice a9 ex6.args.length c9] 40) = U ∧ U.heap[V9.heap.size]? = some (.cells #[.string ⟨#[88]⟩, .int .u8 ex5.kind, .int .i64 ex5.num, .string ex5.name, .slice a8 ex5.args.length c8, .string ⟨#[89]⟩, .int .u8 ex6.kind, .int .i64 ex6.num, .string ex6.name, .slice a9 ex6.args.length c9] 40 (0, 0)) ∧ Below V9.heap.size V9 U := ⟨_, rfl, World.alloc_heap_new _ _, bR.alloc (Nat.le_refl _) _⟩
      have HONE := Hi (show BdV U (.slice (some ⟨V9.heap.size, 0, none⟩) 2 2) bdOne from BdV.two hrU (by unfold maxLen; decide) (by unfold maxLen; decide) ((HT8.out.keep (ok' := fun b => b < U.heap.size) fun b hf => ⟨by have := hf.2; have := hb.size; have := hbU.size; omega, (hbU.block b (Nat.lt_of_lt_of_le hf.2 hb.size)).trans (hb.block b hf.2)⟩).isTm fun b hf => hf) ((ht.keep (ok' := fun b => b < U.heap.size) fun b hf => ⟨Nat.lt_of_lt_of_le hf.2 hbU.size, hbU.block b hf.2⟩).isTm fun b hf => hf))
      have HU := Hi hU
      have HBU := Hi (HB9.out.trans (hbU.mono HB9.out.size))
      clear hU hrU hbU
      clear ht hb)
   | (go_at_call 19; have hgd := HB7.out; clear hgd; refine (pair07_any 20 ⟨#[88]⟩ ⟨#[49]⟩ ex5 ex5_read _).mono ?_; rintro e V8 ⟨a8, c8, rfl, ht, hb⟩
      have HB8 := Hi (HB7.out.trans (hb.mono HB7.out.size))
      have HT8 := Hi ht
      have HG8 := Hi hb
      clear ht hb)
   | (go_at_call 15; have hgd := HB6.out; clear hgd; refine (match_any ex3 ex4 [] _ _ _ _ _ _ _ _ _ V6 ((HT5.out.below HG6.out).mono HG6.out.size) HT6.out (BdV.nil _) (by decide) (fun x hx => (List.not_mem_nil hx).elim) (fun x hx => (List.not_mem_nil hx).elim) (by decide) (by decide)).mono ?_; intro e V7 hp; unfold MatchPost at hp; rw [exm2] at hp; obtain ⟨hb, rfl⟩ := hp
      have HB7 := Hi (HB6.out.trans (hb.mono HB6.out.size))
      clear hb)
   | (go_at_call 20; have hgd := HB5.out; clear hgd; refine (read07_any 20 ⟨#[51]⟩ ex4 ex4_read _).mono ?_; rintro e V6 ⟨v, rfl, a6, c6, rfl, ht, hb⟩
      have HB6 := Hi (HB5.out.trans (hb.mono HB5.out.size))
      have HT6 := Hi (show IsTm V6.heap.size V6 _ _ _ _ ex4 from ht.isTm fun b hf => hf.2)
      have HG6 := Hi hb
      clear ht hb)
   | (go_at_call 20; have hgd := HB4.out; clear hgd; refine (read07_any 20 ⟨#[88, 43, 49]⟩ ex3 ex3_read _).mono ?_; rintro e V5 ⟨v, rfl, a5, c5, rfl, ht, hb⟩
      have HB5 := Hi (HB4.out.trans (hb.mono HB4.out.size))
      have HT5 := Hi (show IsTm V5.heap.size V5 _ _ _ _ ex3 from ht.isTm fun b hf => hf.2)
      clear ht hb)
   | (go_at_call 15; have hgd := HB3.out; clear hgd; refine (match_any ex1 ex2 [] _ _ _ _ _ _ _ _ _ V3 ((HT2.out.below HG3.out).mono HG3.out.size) HT3.out (BdV.nil _) (by decide) (fun x hx => (List.not_mem_nil hx).elim) (fun x hx => (List.not_mem_nil hx).elim) (by decide) (by decide)).mono ?_; intro e V4 hp; unfold MatchPost at hp; rw [exm1] at hp; obtain ⟨hb, rfl⟩ := hp
      have HB4 := Hi (HB3.out.trans (hb.mono HB3.out.size))
      clear hb)
   | (go_at_call 20; have hgd := HB2.out; clear hgd; refine (read07_any 20 ⟨#[102, 40, 49, 44, 50, 41]⟩ ex2 ex2_read _).mono ?_; rintro e V3 ⟨v, rfl, a3, c3, rfl, ht, hb⟩
      have HB3 := Hi (HB2.out.trans (hb.mono HB2.out.size))
      have HT3 := Hi (show IsTm V3.heap.size V3 _ _ _ _ ex2 from ht.isTm fun b hf => hf.2)
      have HG3 := Hi hb
      clear ht hb)
   | (go_at_call 20; have hgd := HB1.out; clear hgd; rw [HW2.out]; refine (read07_any 20 ⟨#[102, 40, 88, 44, 88, 41]⟩ ex1 ex1_read _).mono ?_; rintro e V2 ⟨v, rfl, a2, c2, rfl, ht, hb⟩
      have HB2 := Hi (HB1.out.trans (hb.mono HB1.out.size))
      have HT2 := Hi (show IsTm V2.heap.size V2 _ _ _ _ ex1 from ht.isTm fun b hf => hf.2)
      clear ht hb)
   | (go_at_call 19; refine (pair07_any 20 ⟨#[88]⟩ ⟨#[50]⟩ ex0 ex0_read w).mono ?_; rintro e W1 ⟨a1, c1, rfl, ht1, hb1⟩
      obtain ⟨W2, hW2, hr2, hb2⟩ : ∃ W2, W1.alloc (.cells #[.string ⟨#[88]⟩, .int .u8 ex0.kind, .int .i64 ex0.num, .string ex0.name, .slice a1 ex0.args.length c1] 40) = W2 ∧ W2.heap[W1.heap.size]? = some (.cells #[.string ⟨#[88]⟩, .int .u8 ex0.kind, .int .i64 ex0.num, .string ex0.name, .slice a1 ex0.args.length c1] 40 (0, 0)) ∧ Below W1.heap.size W1 W2 := ⟨_, rfl, World.alloc_heap_new _ _, bR.alloc (Nat.le_refl _) _⟩
      have HTWO := Hi (show BdV W2 (.slice (some ⟨W1.heap.size, 0, none⟩) 1 1) bdTwo from BdV.one hr2 (by unfold maxLen; decide) ((ht1.keep (ok' := fun b => b < W2.heap.size) fun b hf => ⟨Nat.lt_of_lt_of_le hf.2 hb2.size, hb2.block b hf.2⟩).isTm fun b hf => hf))
      have HW := Hi (show Below w.heap.size w W2 from hb1.trans (hb2.mono hb1.size))
      have HW2 := Hi hW2
      have HB1 := Hi (Below.refl W2.heap.size W2)
      clear ht1 hb1 hr2 hb2 hW2))
 go_ret
 exact ⟨rfl, HW.out.trans (HB17.out.mono HW.out.size)⟩
end Go.Proofs.YtlmdhlckgbgfhaaGreatDoor
namespace Go.Proofs.YtlmdhlckgbgfhaaGreatDoor
open Go.RowKit

def StepKOr (P : Program) (ops : Array Oper) (m b1 : Nat) (kl : Nat → Nat → Bool) (Q : Exit → Act → World → Prop) (Φ : Facts) (a0 : Act) (w0 : World) (i : Nat) (o : Oper) : Prop :=
 ∀ a w, Below b1 w0 w → ((i = m ∨ waitsT ops ops.size m i = true) → Below w0.heap.size w0 w) → a.defers = a0.defers → a.tmps.size = a0.tmps.size →
   (∀ t, noDstTo ops ops.size t = true → a.tmps.getD t undef = a0.tmps.getD t undef) →
   (∀ j oj d, waitsFor o j = true → ops[j]? = some oj → oj.dst = some d → Φ j (a.tmps.getD d undef) w) →
   (Region.wanted o (yielded ops a.tmps) = true ∧ o.wp P a w (SteppedK ops m b1 kl Φ w0 i o a w) Q) ∨ (Region.wanted o (yielded ops a.tmps) = false ∧ ∀ d, o.dst = some d → Φ i undef w)
theorem wp_region_kill_or {P : Program} {ops : Array Oper} {Q : Exit → Act → World → Prop} {id : Nat} {a0 : Act} {w0 : World} (hm : P.follows .mixedOrders = true) (m b1 : Nat) (hb1 : b1 ≤ w0.heap.size) (hms : m < ops.size) (kl : Nat → Nat → Bool) (Φ : Facts)
   (hok : regionOk ops a0.tmps.size = true) (hko : killOk ops ops.size kl = true)
   (step : ∀ i o, ops[i]? = some o → StepKOr P ops m b1 kl Q Φ a0 w0 i o)
   (fin : ∀ a w, HeadInvK ops ops.size m b1 kl Φ a0 w0 (Array.replicate ops.size true) a w → Q .normal a w) : (Code.region id ops true).wp P Q a0 w0 := by
 refine wp_region_any hm (wpAny_inv hok (fun l a w => l.size = ops.size ∧ ListedOk ops l ∧ HeadInvK ops ops.size m b1 kl Φ a0 w0 l a w) (fun _ _ _ h => h.1) ?_ (fun a w h => fin a w h.2.2) ops.size _ a0 _ ⟨by simp, ?_, ?_⟩ ?_)
 · rintro l a w i o ⟨hls, hcl, hJ⟩ hil ho hie
   have hi' : i < ops.size := (gL ho)
   have hil' : l.getD i false = false := by rw [← getD_true_false (by omega)]; exact hil
   have hcl' := hcl.set hls ho hie
   rcases step i o ho a w hJ.below (fun hq => hJ.early (by
       rcases hq with rfl | hq
       · exact hil'
       · cases hlm : l.getD m false with
         | false => rfl
         | true =>
           obtain ⟨om, hom⟩ : ∃ o, ops[m]? = some o := ⟨ops[m], Array.getElem?_eq_getElem hms⟩
           have := waits_listed hcl i ops.size m om hom (hcl m om hom hlm) hq
           rw [this] at hil'; cases hil')) hJ.defers hJ.tmps hJ.outer (fun j oj d hwt hoj hd => by
       obtain ⟨e, he, hej, hb⟩ := waitsFor_spec hwt
       have hji : j < i := by rw [← hej]; exact (regionOk_spec hok i o ho).1 e he
       refine hJ.facts j oj d hoj (by omega) (hej ▸ hie e he hb) (fun k hk hq => ?_) hd
       rcases killOk_spec hko i hi' o ho e he hb k hk (by rw [hej]; exact hq) with rfl | hwk
       · exact hil'
       · cases hlk : l.getD k false with
         | false => rfl
         | true =>
           obtain ⟨ok, hok'⟩ : ∃ o, ops[k]? = some o := ⟨ops[k], Array.getElem?_eq_getElem hk⟩
           have := waits_listed hcl i ops.size k ok hok' (hcl k ok hok' hlk) hwk
           rw [this] at hil'; cases hil') with ⟨hw, hwp⟩ | ⟨hw, hv⟩
   · unfold wpOp
     simp only [ho, hw, if_true]
     refine Or.inl (Oper.wp_mono ?_ hwp)
     rintro a' w' ⟨v, rfl, hb, hv, hk⟩
     exact ⟨by simp [hls], hcl', hJ.put hb1 hok hls hcl hi' ho hil' hb hv hk⟩
   · unfold wpOp
     simp only [ho, hw, Bool.false_eq_true, if_false]
     exact ⟨by simp [hls], hcl', hJ.put hb1 hok hls hcl hi' ho hil' bR hv (fun _ _ _ _ _ h => h)⟩
 · intro i o ho hl
   have hi := (gL ho)
   simp [Array.getD_eq_getD_getElem?, hi] at hl
 · refine ⟨((Below.refl _ w0).drew).mono hb1, fun _ => (Below.refl _ w0).drew, rfl, rfl, fun _ _ => rfl, ?_⟩
   intro i o d ho _ hl _ _
   have hi := (gL ho)
   simp [Array.getD_eq_getD_getElem?, hi] at hl
 · exact Nat.le_trans (List.length_filter_le _ _) (by simp)
end Go.Proofs.YtlmdhlckgbgfhaaGreatDoor
namespace Go.Proofs.YtlmdhlckgbgfhaaGreatDoor
open Go.ChangeShapes Go.WideShapes Go.ChangeAt Go.RowKit

theorem laid_own : ownKnob Tryz.prog.godebug = none := by kernel_rfl
theorem post_of_below {H : Type} {enc : TypeId × Value → H} {P : Program} {f : Func} {s : ChangeSpec} {apart fresh handsOn again : Bool} {W W' : World} {args : Array Value} {v : Value} {ds gs : List (DataW H)} {before pa pv : List MemPlace}
   (hW : DataW.Whole enc P f.params.toList s.vars apart W args.toList ds gs before)
   (hres : ∀ (b : Nat) (sp : Nat → Bool) (hd : Bool), DataW.TrodAll enc P W' b sp hd f.resultTypes.toList (v.resultList f.resultTypes.size) (s.fn H (ds ++ gs)).results [])
   (hargs : ∀ sp : Nat → Bool, (∀ p ∈ before, sp p.block = true) → DataW.TrodAll enc P W' 0 sp true f.params.toList args.toList (s.fn H (ds ++ gs)).args pa)
   (hvars : ∀ sp : Nat → Bool, (∀ p ∈ before, sp p.block = true) → DataW.TrodVars enc P W' sp s.vars (s.fn H (ds ++ gs)).vars pv)
   (hps : before = pa ++ pv) (hB : Below W.heap.size W W')
   (hok : ∀ (j : Nat) (t : TypeId) (r : Value), f.resultTypes[j]? = some t → (v.resultList f.resultTypes.size)[j]? = some r → Value.okWide P W' .any 0 t r) :
   s.post enc P f apart fresh handsOn again W args v W' := by
 have hold : ∀ p ∈ before, (fun b => decide (b < W.heap.size)) p.block = true := fun p hp => by simpa using hW.lt p hp
 have hlt : ∀ p ∈ before, p.block < W.heap.size := fun p hp => hW.lt p hp
 refine ⟨ds, gs, before, [], pa, pv, hW, hres _ _ _, hargs _ hold, hvars _ hold, World.keptBut_mono (fun p hp => ⟨hp, ?_⟩) (hB.frame (· ∈ before)), fun _ => ?_⟩
 · rw [hps, List.mem_append] at hp
   exact Or.inr hp
 · obtain ⟨_, _, _, _, _, hz, hn⟩ := hW
   refine ⟨hok, _, _, ([] ++ pa) ++ pv, ⟨[] ++ pa, pv, trodAll_append (hargs _ (fun _ _ => rfl)) (hres _ _ _), hvars _ (fun _ _ => rfl), rfl, ?_, ?_⟩, ?_⟩
   · intro b off hp
     have hp' : MemPlace.cell b off ∈ before := by rw [hps]; simpa using hp
     rw [hB.frozen (p := ⟨b, off, none⟩) (hlt _ hp')]
     exact hz b off hp'
   · intro ha
     have := hn ha
     rw [hps] at this
     simpa using this
   · intro p hp _
     rw [hps]
     simpa using hp
end Go.Proofs.YtlmdhlckgbgfhaaGreatDoor
